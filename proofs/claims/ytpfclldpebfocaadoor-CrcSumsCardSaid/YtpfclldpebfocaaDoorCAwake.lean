/-
  The contract of the crc statements' own first look at the chapter's examples: it answers true and writes nothing that was there.
-/
import Derived.Test.YtpfclldpebfocaaDoorSC
import Derived.Test.YtpfclldpebfocaaDoorReg
import Derived.Test.YtpfclldpebfocaaDoorSum
import Derived.Test.YtpfclldpebfocaaDoorTurn
import Derived.OwnWalk
import Derived.Lib.SlBytesConst
namespace Go.Proofs.YtpfclldpebfocaaDoor
open Go Go.RowKit

theorem LaidH.ext {a b : World} (h : LaidH a) (k : Ext a b) : LaidH b := fun i hi =>
  (Below.cell k (p := ⟨0, i, none⟩) (World.block_lt_of_cell? a _ (h i hi))).trans (h i hi)
theorem sum_by (A : Option Addr) (l : List Nat) (n c : Nat) (w : World) (hL : LaidH w) (hb : By w A n c l) :
    Calls Tryd.prog 11 #[.slice A n c] w fun e w' => e = .returned (.int .u32 ((crcS l : Nat) : Int)) ∧ Ext w w' :=
  (sum_any A l n c _ w hL hb.len hb.rd (by have := hb.cap; have := hb.most; unfold maxLen; omega)).mono fun _ _ ⟨h, hw⟩ => ⟨h, by subst hw; exact Ext.refl _⟩
theorem ext_by (A : Option Addr) (l : List Nat) (n c s : Nat) (w : World) (hL : LaidH w) (hb : By w A n c l) (hs : s < 4294967296) :
    Calls Tryd.prog 13 #[.int .u32 s, .slice A n c] w fun e w' => e = .returned (.int .u32 ((crcE s l : Nat) : Int)) ∧ Ext w w' :=
  (ext_any A l n c _ s w hL hb.len hb.rd (by have := hb.cap; have := hb.most; unfold maxLen; omega) hs).mono fun _ _ ⟨h, hw⟩ => ⟨h, by subst hw; exact Ext.refl _⟩
theorem turned_by (A A' : Option Addr) (l l' : List Nat) (n n' c c' : Nat) (w : World) (hb : By w A n c l) (hb' : By w A' n' c' l') (hm : n ≤ 1000000000) (hm' : n' ≤ 1000000000) :
    Calls Tryd.prog 18 #[.slice A n c, .slice A' n' c'] w fun e w' => e = .returned (.int .i64 (turnedI l l')) ∧ Ext w w' :=
  (turned_any A A' l l' n n' c c' _ w hb.len hb'.len hb.rd hb'.rd hm hm').mono fun _ _ ⟨h, k, hk⟩ => ⟨h, by subst hk; exact (Ext.refl _).drewN k⟩

set_option maxHeartbeats 1000000 in
theorem row_by (n x : Nat) (w : World) (hn : n ≤ 1000000) (hx : x < 256) :
    Calls Tryd.prog 21 #[.int .i64 n, .int .u8 x] w fun e w' => ∃ A' c', e = .returned (.slice A' n c') ∧ By w' A' n c' (List.replicate n x) ∧ Ext w w' := by
  obtain ⟨i0, hi, hz0, hz1, hz2⟩ := info_parts byte_info
  go_enter Tryd.func21, Tryd.ntmps21
  go_wp2_with fail
  go_loopw [5, 6] (fun v i wr => ∃ k : Nat, k ≤ n ∧ i = .int .i64 k ∧ Hid (wr.ownsRow w.heap.size 5 1 v k (vb (List.replicate k x))) ∧ Below w.heap.size w wr) (fun _ i _ => n - (intOf i).toNat)
  case atStart => exact ⟨0, Nat.zero_le _, rfl, Lib.hid (World.ownsRow_nil _ _ _ _), Below.refl _ _⟩
  case round =>
    obtain ⟨k, hk, rfl, HO, hbk⟩ := hrel
    have HBk := Lib.hid hbk
    have hsz := hbk.size
    clear hbk
    by_cases hlt : k < n
    · go_wp2_with (at_builtin; refine wpList_append_own _ rfl _ _ 22 rfl w.heap.size 5 i0 (.int .u8 0) 1 1 Tryd.underlying22 hi hz0 hz1 hz2 rfl (by decide) _ _ _ rfl (HO.out.alloc _) ⟨wr.heap.size, 0, none⟩ 1 1 [.int .u8 (x : Int)] rfl rfl ?c1 ?c2 ?c3 ?c4 ?c5 ?_)
      case c1 =>
        intro j u hj
        match j, hj with
        | 0, hj => simp at hj; subst hj; simp [Addr.add]
      case c2 => intro u hu; simp at hu; subst hu; rfl
      case c3 => unfold maxLen; omega
      case c4 => omega
      case c5 => simp; omega
      intro v1 w1 hown hg _
      have HO1 : Hid (w1.ownsRow w.heap.size 5 1 v1 (k + 1) (vb (List.replicate (k + 1) x))) := by
        have e : vb (List.replicate (k + 1) x) = vb (List.replicate k x) ++ [.int .u8 (x : Int)] := by
          rw [List.replicate_succ', vb_append]
          rfl
        rw [e]
        exact Lib.hid hown
      have HB1 : Hid (Below w.heap.size w w1) := by
        refine Lib.hid ((HBk.out.alloc HBk.out.size _).grown hg (Nat.le_trans HBk.out.size (by simp)) ?_)
        intro g hg'
        exact (HO.out.lt g hg').1
      clear hown hg
      go_wp2_with fail
      go_roundw
      case rel => exact ⟨k + 1, by omega, by go_num, HO1, HB1.out⟩
      case measure => simp [intOf]; omega
    · have HK : Hid (k = n) := Lib.hid (by omega)
      obtain ⟨A', c', hv, _, _⟩ := own_form HO.out
      subst hv
      go_wp2_with fail
      go_ret
      have h1 := HO.out
      rw [HK.out] at h1
      exact ⟨A', c', by rw [HK.out]; rfl, Bs.of_own h1 (by intro b hb; rw [List.eq_of_mem_replicate hb]; exact hx), HBk.out⟩

set_option maxHeartbeats 2000000 in
set_option maxRecDepth 100000 in
theorem cawake_any (w : World) (hL : LaidH w) : Calls Tryd.prog 16 #[] w fun e w' => e = .returned (.bool true) ∧ Ext w w' := by
  have HL := Lib.hid hL
  have HE := Lib.hid (Ext.refl w)
  clear hL
  have kc := fun (w : World) (C : Array Value) (n c : Nat) => Lib.run_convert_bytes_const (P := Tryd.prog) w 22 5 C n c Tryd.underlying22 Tryd.underlying5
  go_enter Tryd.func16, Tryd.ntmps16
  go_wp2_with fail
  have HY := Lib.hid ((Ext.refl w).alloc (.cells #[.int .u8 49, .int .u8 50, .int .u8 51, .int .u8 52] 5 (4, 5)))
  refine (sum_by _ [49, 50, 51, 52] 4 4 _ (HL.out.ext HY.out) (By.litm w [49, 50, 51, 52] 5 (4, 5) (by decide) (by decide) _ rfl)).mono ?_
  have hss1 : crcS [49, 50, 51, 52] < 4294967296 := crcE_lt _ _
  generalize hq : crcS [49, 50, 51, 52] = s1 at hss1
  have HQs1 := Lib.hid hq
  clear hq
  rintro e w1 ⟨rfl, hx⟩
  replace hx := HY.out.trans hx
  have HE := Lib.hid (HE.out.trans hx)
  have HL := Lib.hid (HL.out.ext hx)
  clear hx HY
  go_wp2_with fail
  have HY := Lib.hid ((Ext.refl w1).alloc (.cells #[.int .u8 53, .int .u8 54, .int .u8 55, .int .u8 56, .int .u8 57] 5 (5, 6)))
  refine (sum_by _ [53, 54, 55, 56, 57] 5 5 _ (HL.out.ext HY.out) (By.litm w1 [53, 54, 55, 56, 57] 5 (5, 6) (by decide) (by decide) _ rfl)).mono ?_
  have hss2 : crcS [53, 54, 55, 56, 57] < 4294967296 := crcE_lt _ _
  generalize hq : crcS [53, 54, 55, 56, 57] = s2 at hss2
  have HQs2 := Lib.hid hq
  clear hq
  rintro e w2 ⟨rfl, hx⟩
  replace hx := HY.out.trans hx
  have HE := Lib.hid (HE.out.trans hx)
  have HL := Lib.hid (HL.out.ext hx)
  clear hx HY
  go_wp2_with fail
  refine (combine_yes s1 s2 5 _ hss1 hss2 (by omega)).mono ?_
  rw [show comb s1 s2 5 = 3808858755 from by rw [← HQs1.out, ← HQs2.out]; decide +kernel]
  rintro e w' ⟨rfl, rfl⟩
  clear hss1 hss2 HQs1 HQs2
  go_wp2_with fail
  refine (combine_no 0 0 (-1) _ (by omega)).mono ?_
  rintro e w' ⟨rfl, rfl⟩
  go_wp2_with fail
  refine (sum_by none [] 0 0 _ HL.out (By.nil_ _)).mono ?_
  rw [show crcS [] = 0 from rfl]
  rintro e w3 ⟨rfl, hx⟩
  have HE := Lib.hid (HE.out.trans hx)
  have HL := Lib.hid (HL.out.ext hx)
  clear hx
  go_wp2_with fail
  have HY := Lib.hid ((Ext.refl w3).alloc (.cells #[.int .u8 49, .int .u8 50, .int .u8 51, .int .u8 52, .int .u8 53, .int .u8 54, .int .u8 55, .int .u8 56, .int .u8 57] 5 (9, 10)))
  refine (sum_by _ [49, 50, 51, 52, 53, 54, 55, 56, 57] 9 9 _ (HL.out.ext HY.out) (By.litm w3 [49, 50, 51, 52, 53, 54, 55, 56, 57] 5 (9, 10) (by decide) (by decide) _ rfl)).mono ?_
  rw [show crcS [49, 50, 51, 52, 53, 54, 55, 56, 57] = 3808858755 from by decide +kernel]
  rintro e w4 ⟨rfl, hx⟩
  replace hx := HY.out.trans hx
  have HE := Lib.hid (HE.out.trans hx)
  have HL := Lib.hid (HL.out.ext hx)
  clear hx HY
  go_wp2_with fail
  refine (row_by 32 0 _ (by omega) (by omega)).mono ?_
  rintro e w5 ⟨A1, c1, rfl, hb, hx⟩
  have HB := Lib.hid hb
  have HE := Lib.hid (HE.out.trans hx)
  have HL := Lib.hid (HL.out.ext hx)
  clear hx hb
  go_wp2_with fail
  refine (sum_by _ _ _ _ _ HL.out HB.out).mono ?_
  rw [show crcS (List.replicate 32 0) = 2324772522 from by decide +kernel]
  rintro e w6 ⟨rfl, hx⟩
  have HE := Lib.hid (HE.out.trans hx)
  have HL := Lib.hid (HL.out.ext hx)
  clear hx HB
  go_wp2_with fail
  refine (row_by 32 255 _ (by omega) (by omega)).mono ?_
  rintro e w7 ⟨A1, c1, rfl, hb, hx⟩
  have HB := Lib.hid hb
  have HE := Lib.hid (HE.out.trans hx)
  have HL := Lib.hid (HL.out.ext hx)
  clear hx hb
  go_wp2_with fail
  refine (sum_by _ _ _ _ _ HL.out HB.out).mono ?_
  rw [show crcS (List.replicate 32 255) = 1655221059 from by decide +kernel]
  rintro e w8 ⟨rfl, hx⟩
  have HE := Lib.hid (HE.out.trans hx)
  have HL := Lib.hid (HL.out.ext hx)
  clear hx HB
  go_wp2_with fail
  have HY := Lib.hid (((Ext.refl w8).alloc (.cells #[.int .u8 1, .int .u8 2] 5)).alloc (.cells #[.int .u8 3, .int .u8 2] 5))
  refine (turned_by _ _ [1, 2] [3, 2] 2 2 2 2 _ ((By.lit w8 [1, 2] 5 (by decide) (by decide) _ rfl).ext ((Ext.refl _).alloc _)) (By.lit2 w8 _ [3, 2] 5 (by decide) (by decide) _ rfl) (by omega) (by omega)).mono ?_
  rw [show turnedI [1, 2] [3, 2] = 1 from by decide]
  rintro e w9 ⟨rfl, hx⟩
  replace hx := HY.out.trans hx
  have HE := Lib.hid (HE.out.trans hx)
  clear hx HY
  go_wp2_with fail
  have HY := Lib.hid (((Ext.refl w9).alloc (.cells #[.int .u8 1] 5)).alloc (.cells #[.int .u8 1, .int .u8 2] 5))
  refine (turned_by _ _ [1] [1, 2] 1 2 1 2 _ ((By.lit w9 [1] 5 (by decide) (by decide) _ rfl).ext ((Ext.refl _).alloc _)) (By.lit2 w9 _ [1, 2] 5 (by decide) (by decide) _ rfl) (by omega) (by omega)).mono ?_
  rw [show turnedI [1] [1, 2] = -1 from by decide]
  rintro e w10 ⟨rfl, hx⟩
  replace hx := HY.out.trans hx
  have HE := Lib.hid (HE.out.trans hx)
  clear hx HY
  go_wp2_with fail
  go_ret
  exact ⟨rfl, HE.out⟩
end Go.Proofs.YtpfclldpebfocaaDoor
