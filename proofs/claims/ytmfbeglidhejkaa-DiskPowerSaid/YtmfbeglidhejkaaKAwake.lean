/-
  The contract of the disk statements' own first look at the chapter's examples: it answers true and writes nothing that was there.
-/
import Derived.Test.YtmfbeglidhejkaaKReads
import Derived.Test.YtmfbeglidhejkaaDLaws
import Derived.OwnWalk
namespace Go.Proofs.Ytmfbeglidhejkaa
open Go Go.RowKit

def aw0 : DM := DM.new 4
def aw1 : DM := (aw0.write 1 (List.replicate 64 5)).2
def aw2 : DM := (aw1.crash []).2
def aw3 : DM := aw2.start.2
def aw4 : DM := (aw3.write 1 (List.replicate 64 5)).2
def aw5 : DM := (aw4.write 2 (List.replicate 64 6)).2
def aw6 : DM := (aw5.crash [false, true]).2
def aw7 : DM := aw6.start.2
def aw8 : DM := (aw7.flip 0 9).2
def aw9 : DM := (aw8.lose 3).2
def aw10 : DM := (aw9.write 3 (List.replicate 64 7)).2
def aw11 : DM := aw10.flush.2
theorem aw_1 : (aw0.write 1 (List.replicate 64 5)).1 = 0 := by decide +kernel
theorem aw_2 : (aw1.crash []).1 = 0 := by decide +kernel
theorem aw_3 : aw2.start.1 = 0 := by decide +kernel
theorem aw_r3 : decide (aw3.read 1 = (List.replicate 64 0, 0)) = true := by decide +kernel
theorem aw_4 : (aw3.write 1 (List.replicate 64 5)).1 = 0 := by decide +kernel
theorem aw_5 : (aw4.write 2 (List.replicate 64 6)).1 = 0 := by decide +kernel
theorem aw_6 : (aw5.crash [false, true]).1 = 0 := by decide +kernel
theorem aw_7 : aw6.start.1 = 0 := by decide +kernel
theorem aw_r7 : decide (aw7.read 1 = (List.replicate 64 0, 0)) = true := by decide +kernel
theorem aw_r72 : decide (aw7.read 2 = (List.replicate 64 6, 0)) = true := by decide +kernel
theorem aw_8 : (aw7.flip 0 9).1 = 0 := by decide +kernel
theorem aw_r8 : aw8.read 0 = ([0, 2] ++ List.replicate 62 0, 0) := by decide +kernel
theorem aw_m8 : aw8.means 0 = (List.replicate 64 0, 0) := by decide +kernel
theorem aw_9 : (aw8.lose 3).1 = 0 := by decide +kernel
theorem aw_r9 : aw9.read 3 = ([], 50) := by decide +kernel
theorem aw_10 : (aw9.write 3 (List.replicate 64 7)).1 = 0 := by decide +kernel
theorem aw_r10 : decide (aw10.read 3 = (List.replicate 64 7, 0)) = true := by decide +kernel
theorem aw_11 : aw10.flush.1 = 0 := by decide +kernel
theorem aw_r11 : decide (aw11.read 3 = (List.replicate 64 7, 0)) = true := by decide +kernel
theorem rep_lt (x : Nat) (hx : x < 256) : ∀ b ∈ List.replicate 64 x, b < 256 := fun b hb => by rw [(List.mem_replicate.1 hb).2]; exact hx
theorem u8_size (w : World) : (sizeOf (Try.prog.elem 33)).run Try.prog w = .ok 1 w := by
  have ht : Try.prog.elem 33 = 5 := by kernel_rfl
  obtain ⟨i0, hi, _, hz1, _⟩ := info_parts byte_info
  rw [ht]
  simp [Go.sizeOf, typeInfo, hi, hz1]
/-- A new row of zero bytes. -/
def zrow (k : Nat) : Obj := .cells (madeCells #[.int .u8 0] k) 5
theorem mk_zeros (k : Nat) (hk : k ≤ 1000) (w : World) : (Instr.makeSlice 33 (.int .i64 (k : Int)) (.int .i64 (k : Int))).run Try.prog w = .ok (.slice (some ⟨w.heap.size, 0, none⟩) k k) (w.alloc (zrow k)) := by
  obtain ⟨i0, hi, hz0, hz1, hz2⟩ := info_parts byte_info
  rw [run_make w 33 5 i0 (.int .u8 0) Try.underlying33 hi hz0 .i64 .i64 (k : Int) (k : Int) (by omega) (Int.le_refl _) (by rw [hz2]; omega) (by omega), hz1, Int.toNat_natCast, Nat.mul_one]
  rfl
theorem By.zrow (w : World) (k : Nat) (hk : k ≤ 1000) : By (w.alloc (zrow k)) (some ⟨w.heap.size, 0, none⟩) k k (List.replicate k 0) := by
  refine By.of_row (heap_alloc_new w (.cells (madeCells #[.int .u8 0] k) 5)) (fun j x hx => ?_) (by intro b hb; rw [(List.mem_replicate.1 hb).2]; omega) (by simp) (Nat.le_refl _) (by omega)
  have e : (madeCells #[Value.int .u8 0] k).toList = List.replicate k (Value.int .u8 0) := toList_madeCells_one _ _
  rw [← Array.getElem?_toList, e]
  rw [List.getElem?_replicate] at hx ⊢
  split at hx
  · rename_i hj
    injection hx with hx
    subst hx
    rw [if_pos hj]
    rfl
  · cases hx
/-- The two bools of the example. -/
theorem keep_ft (w : World) : Vs (w.alloc (.cells #[.bool false, .bool true] 4)) (w.alloc (.cells #[.bool false, .bool true] 4)).heap.size (some ⟨w.heap.size, 0, none⟩) 2 2 ([false, true].map .bool) :=
  ⟨rfl, Nat.le_refl _, by omega, fun _ => ⟨_, 0, rfl, by simp, fun j v hv => by
    rw [Nat.zero_add, World.cell?_alloc_new]
    rw [← List.getElem?_toArray] at hv
    exact hv⟩, fun h => by cases h⟩
theorem keep_nil (w : World) (B : Nat) : Vs w B none 0 0 (([] : List Bool).map .bool) := ⟨rfl, Nat.le_refl _, by omega, fun h => absurd h (by omega), fun _ => rfl⟩
theorem off_none (F : Nat → Prop) : Off F none := fun p hp => by cases hp

set_option maxRecDepth 100000 in
set_option maxHeartbeats 6400000 in
theorem kawake_any (w : World) : Calls Try.prog 22 #[] w fun e w' => e = .returned (.bool true) ∧ Ext w w' := by
  have mk64 : ∀ w, (Instr.makeSlice 33 (.int .i64 64) (.int .i64 64)).run Try.prog w = .ok (.slice (some ⟨w.heap.size, 0, none⟩) 64 64) (w.alloc (zrow 64)) := mk_zeros 64 (by omega)
  go_enter Try.func22, Try.ntmps22
  go_wp2_with fail
  refine (new_pdk 4 _ (by omega) (by omega)).mono ?_
  rintro e w1 ⟨d, rfl, hp, hx⟩
  have HD : Hid (DK w w1 d _ aw0) := Lib.hid ⟨hp, fun k hk => hk.1, hx⟩
  clear hp hx
  go_wp2_with fail
  refine (sector_n 5 (by omega) _).mono ?_
  rintro e w2 ⟨A, n, c, rfl, hown, hx⟩
  have HOF := Lib.hid (HD.out.fresh hown)
  have HBY : Hid (By w2 A n c (List.replicate 64 5)) := Lib.hid (Bs.of_own hown (rep_lt 5 (by omega)))
  have HD := Lib.hid (HD.out.ext hx)
  clear hown hx
  go_wp2_with fail
  refine (write_pd HD.out.disk 1 A n c (List.replicate 64 5) HBY.out HOF.out (by decide +kernel)).mono ?_
  unfold Outc
  rw [aw_1]
  rintro e w3 ⟨rfl, hp, hm⟩
  have HD : Hid (DK w w3 d _ aw1) := Lib.hid (HD.out.step hp hm)
  clear hp hm
  clear HBY HOF
  go_wp2_with fail
  refine (crash_pd HD.out.disk none 0 0 [] (keep_nil _ _) (fun _ => off_none _)).mono ?_
  unfold Outc
  rw [aw_2]
  rintro e w4 ⟨rfl, hp, hm⟩
  have HD : Hid (DK w w4 d _ aw2) := Lib.hid (HD.out.step hp hm)
  clear hp hm
  go_wp2_with fail
  refine (start_pd HD.out.disk).mono ?_
  unfold Outc
  rw [aw_3]
  rintro e w5 ⟨rfl, hp, hm⟩
  have HD : Hid (DK w w5 d _ aw3) := Lib.hid (HD.out.step hp hm)
  clear hp hm
  go_wp2_with fail
  refine (reads_of HD.out.disk 1 0 (by omega) (by decide +kernel)).mono ?_
  rw [aw_r3]
  rintro e w6 ⟨rfl, hx⟩
  have HD := Lib.hid (HD.out.ext hx)
  clear hx
  go_wp2_with fail
  refine (sector_n 5 (by omega) _).mono ?_
  rintro e w7 ⟨A, n, c, rfl, hown, hx⟩
  have HOF := Lib.hid (HD.out.fresh hown)
  have HBY : Hid (By w7 A n c (List.replicate 64 5)) := Lib.hid (Bs.of_own hown (rep_lt 5 (by omega)))
  have HD := Lib.hid (HD.out.ext hx)
  clear hown hx
  go_wp2_with fail
  refine (write_pd HD.out.disk 1 A n c (List.replicate 64 5) HBY.out HOF.out (by decide +kernel)).mono ?_
  unfold Outc
  rw [aw_4]
  rintro e w8 ⟨rfl, hp, hm⟩
  have HD : Hid (DK w w8 d _ aw4) := Lib.hid (HD.out.step hp hm)
  clear hp hm
  clear HBY HOF
  go_wp2_with fail
  refine (sector_n 6 (by omega) _).mono ?_
  rintro e w9 ⟨A, n, c, rfl, hown, hx⟩
  have HOF := Lib.hid (HD.out.fresh hown)
  have HBY : Hid (By w9 A n c (List.replicate 64 6)) := Lib.hid (Bs.of_own hown (rep_lt 6 (by omega)))
  have HD := Lib.hid (HD.out.ext hx)
  clear hown hx
  go_wp2_with fail
  refine (write_pd HD.out.disk 2 A n c (List.replicate 64 6) HBY.out HOF.out (by decide +kernel)).mono ?_
  unfold Outc
  rw [aw_5]
  rintro e w10 ⟨rfl, hp, hm⟩
  have HD : Hid (DK w w10 d _ aw5) := Lib.hid (HD.out.step hp hm)
  clear hp hm
  clear HBY HOF
  go_wp2_with fail
  have HDK := Lib.hid (HD.out.ext ((Ext.refl w10).alloc (.cells #[.bool false, .bool true] 4)))
  have HOK : Hid (Off _ (some ⟨w10.heap.size, 0, none⟩)) := Lib.hid fun p hp hf => by
    injection hp with hp
    subst hp
    have := HD.out.disk.lt _ hf
    simp at this
  refine (crash_pd HDK.out.disk _ 2 2 [false, true] (keep_ft w10) (fun _ => HOK.out)).mono ?_
  unfold Outc
  rw [aw_6]
  rintro e w11 ⟨rfl, hp, hm⟩
  have HD : Hid (DK w w11 d _ aw6) := Lib.hid (HDK.out.step hp hm)
  clear hp hm HDK HOK
  go_wp2_with fail
  refine (start_pd HD.out.disk).mono ?_
  unfold Outc
  rw [aw_7]
  rintro e w12 ⟨rfl, hp, hm⟩
  have HD : Hid (DK w w12 d _ aw7) := Lib.hid (HD.out.step hp hm)
  clear hp hm
  go_wp2_with fail
  refine (reads_of HD.out.disk 1 0 (by omega) (by decide +kernel)).mono ?_
  rw [aw_r7]
  rintro e w13 ⟨rfl, hx⟩
  have HD := Lib.hid (HD.out.ext hx)
  clear hx
  go_wp2_with fail
  refine (reads_of HD.out.disk 2 6 (by omega) (by decide +kernel)).mono ?_
  rw [aw_r72]
  rintro e w14 ⟨rfl, hx⟩
  have HD := Lib.hid (HD.out.ext hx)
  clear hx
  go_wp2_with fail
  refine (flip_pd HD.out.disk 0 9 (by omega)).mono ?_
  unfold Outc
  rw [aw_8]
  rintro e w15 ⟨rfl, hp, hm⟩
  have HD : Hid (DK w w15 d _ aw8) := Lib.hid (HD.out.step hp hm)
  clear hp hm
  go_wp2_with fail
  refine (read_pd HD.out.disk 0 (by decide +kernel)).mono ?_
  rw [aw_r8]
  rintro e w16 ⟨A1, n1, rfl, hn, hx⟩
  have HN1 := Lib.hid hn
  have HD := Lib.hid (HD.out.ext hx)
  clear hn hx
  go_wp2_with fail
  refine (meant_pd HD.out.disk 0).mono ?_
  rw [aw_m8]
  rintro e w17 ⟨A2, n2, rfl, hn, hx⟩
  have HN1 := Lib.hid (HN1.out.ext hx)
  have HN2 := Lib.hid hn
  have HD := Lib.hid (HD.out.ext hx)
  obtain rfl : n1 = 64 := by have := HN1.out.len; simpa using this.symm
  obtain rfl : n2 = 64 := by have := HN2.out.len; simpa using this.symm
  obtain ⟨g1, t1, hA1, _, hg1⟩ := HN1.out.at_.resolve_left (by omega)
  subst hA1
  have q0 := cell_of_row w17 g1 0 _ _ _ hg1
  have q1 := cell_of_row w17 g1 1 _ _ _ hg1
  have q2 := cell_of_row w17 g1 2 _ _ _ hg1
  rw [show (vb ([0, 2] ++ List.replicate 62 0)).toArray[0]? = some (Value.int .u8 0) from rfl] at q0
  rw [show (vb ([0, 2] ++ List.replicate 62 0)).toArray[1]? = some (Value.int .u8 2) from rfl] at q1
  rw [show (vb ([0, 2] ++ List.replicate 62 0)).toArray[2]? = some (Value.int .u8 0) from rfl] at q2
  clear hn hx hg1
  go_wp2_with fail
  have HD := Lib.hid (HD.out.ext ((Ext.refl w17).alloc (zrow 64)))
  refine (same_by A2 _ (List.replicate 64 0) (List.replicate 64 0) 64 64 64 64 _ (HN2.out.by.ext ((Ext.refl w17).alloc (zrow 64))) (By.zrow w17 64 (by omega))).mono ?_
  rw [decide_eq_true (rfl : (List.replicate 64 0 : List Nat) = List.replicate 64 0)]
  rintro e w18 ⟨rfl, hx⟩
  have HD := Lib.hid (HD.out.ext hx)
  clear hx HN1 HN2 q0 q1 q2
  go_wp2_with fail
  refine (lose_pd HD.out.disk 3).mono ?_
  unfold Outc
  rw [aw_9]
  rintro e w19 ⟨rfl, hp, hm⟩
  have HD : Hid (DK w w19 d _ aw9) := Lib.hid (HD.out.step hp hm)
  clear hp hm
  go_wp2_with fail
  refine (read_pd HD.out.disk 3 (by decide +kernel)).mono ?_
  rw [aw_r9]
  rintro e w20 ⟨A3, n3, rfl, hn, hx⟩
  have HD := Lib.hid (HD.out.ext hx)
  clear hn hx
  go_wp2_with fail
  refine (sector_n 7 (by omega) _).mono ?_
  rintro e w21 ⟨A, n, c, rfl, hown, hx⟩
  have HOF := Lib.hid (HD.out.fresh hown)
  have HBY : Hid (By w21 A n c (List.replicate 64 7)) := Lib.hid (Bs.of_own hown (rep_lt 7 (by omega)))
  have HD := Lib.hid (HD.out.ext hx)
  clear hown hx
  go_wp2_with fail
  refine (write_pd HD.out.disk 3 A n c (List.replicate 64 7) HBY.out HOF.out (by decide +kernel)).mono ?_
  unfold Outc
  rw [aw_10]
  rintro e w22 ⟨rfl, hp, hm⟩
  have HD : Hid (DK w w22 d _ aw10) := Lib.hid (HD.out.step hp hm)
  clear hp hm
  clear HBY HOF
  go_wp2_with fail
  refine (reads_of HD.out.disk 3 7 (by omega) (by decide +kernel)).mono ?_
  rw [aw_r10]
  rintro e w23 ⟨rfl, hx⟩
  have HD := Lib.hid (HD.out.ext hx)
  clear hx
  go_wp2_with fail
  refine (flush_pd HD.out.disk).mono ?_
  unfold Outc
  rw [aw_11]
  rintro e w24 ⟨rfl, hp, hm⟩
  have HD : Hid (DK w w24 d _ aw11) := Lib.hid (HD.out.step hp hm)
  clear hp hm
  go_wp2_with fail
  refine (reads_of HD.out.disk 3 7 (by omega) (by decide +kernel)).mono ?_
  rw [aw_r11]
  rintro e w25 ⟨rfl, hx⟩
  have HD := Lib.hid (HD.out.ext hx)
  clear hx
  go_wp2_with fail
  go_ret
  exact ⟨rfl, HD.out.bel⟩
end Go.Proofs.Ytmfbeglidhejkaa
