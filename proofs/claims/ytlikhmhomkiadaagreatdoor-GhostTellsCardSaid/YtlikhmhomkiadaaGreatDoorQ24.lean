/-
  The contract of the statements' Great; a round of Do over a list of acts that came in.
  The contract of the frame statements' own first look at the chapter's examples: it answers true and writes nothing that was there.
  The contract of the document's own shifting of a bit.
  The contracts of the document's own checksum: bytes.
  The contract of the document's own Seal.
-/
import Derived.Test.YtlikhmhomkiadaaGreatDoorQ01
import Derived.Test.YtlikhmhomkiadaaGreatDoorQ02
import Derived.Test.YtlikhmhomkiadaaGreatDoorQ13
import Derived.Test.YtlikhmhomkiadaaGreatDoorQ17
import Derived.Test.YtlikhmhomkiadaaGreatDoorQ18
import Derived.Test.YtlikhmhomkiadaaGreatDoorQ21
import Derived.Test.YtlikhmhomkiadaaGreatDoorQ23
import Derived.Deep.RegionHeld3
import Derived.Test.YtlikhmhomkiadaaGreatDoorProg
import Derived.WalkKit
import Derived.WalkSpells
import Derived.BigQuiet
import Derived.Lib.Hide
import Derived.Laws.BitsAllLaws
namespace Go.Proofs.YtlikhmhomkiadaaGreatDoor
set_option maxRecDepth 100000
open Go Go.RowKit

/-- An act that came in, at a disk made since. -/
theorem do_dk {w0 w : World} {d : Nat} {F : Nat → Prop} {m : DM} (h : DK w0 w d F m) (a : Act5) (ha : a.Ok w0 w0.heap.size) (hn : a.bn ≤ 200) (hfew : m.waits.length ≤ 1000) :
    Calls Tryz.prog 38 #[.pointer (some ⟨d, 0, none⟩), .agg #[.int .u8 (a.kind : Int), .int .i64 a.sec, .int .i64 a.num, .slice a.bA a.bn a.bc, .slice a.kA a.kn a.kc]] w fun e w' =>
      e = .returned (.int .i64 (m.act a.kind a.sec a.num a.bl a.kl).1) ∧ DK w0 w' d (grow F w w') (m.act a.kind a.sec a.num a.bl a.kl).2 := by
  have hd := do_of h.disk a ((ha.below h.bel).more h.bel.size) (h.vs ha.keep) (by omega) (by omega)
  unfold actV at hd
  exact hd.mono fun e w' ⟨h1, h2, h3⟩ => ⟨h1, h.step h2 h3⟩

/-- What Great answers. -/
def GreatE (n : Nat) (l : List Act5) (w : World) (e : Ending) (w' : World) : Prop := ∃ b : Bool, e = .returned (.bool b) ∧ w = w' ∧ (b = false → n ≤ 120 ∧ ∀ a ∈ l, a.bn ≤ 200 ∧ a.kn ≤ 100)

set_option maxRecDepth 100000 in
set_option maxHeartbeats 1600000 in
theorem great_of {w : World} {B : Nat} (A : Option Addr) (n c : Nat) (l : List Act5) (h : Acts w B A n c l) :
    Calls Tryz.prog 37 #[.slice A n c] w (GreatE n l w) := by
  have HA := Lib.hid h
  have hn := Nat.zero_le n
  clear h
  go_enter Tryz.func37, Tryz.ntmps37
  by_cases hn120 : 120 < n
  · go_wp2_with fail
    go_ret
    exact ⟨true, rfl, rfl, fun h => by cases h⟩
  go_wp2_with fail
  go_loopw [3] (fun i wr => ∃ k : Nat, k ≤ n ∧ i = .int .i64 k ∧ wr = w ∧ Hid (∀ a ∈ l.take k, a.bn ≤ 200 ∧ a.kn ≤ 100)) (fun i _ => n - (intOf i).toNat)
  case atStart => exact ⟨0, Nat.zero_le _, rfl, rfl, Lib.hid fun a ha => by simp at ha⟩
  case round =>
    obtain ⟨k, hkn, rfl, rfl, HT⟩ := hrel
    by_cases hlt : k < n
    · obtain ⟨g, o, a, rfl, hg, ha, hok, h0, h1, h2, h3, h4⟩ := HA.out.at_ hlt
      have HAL := Lib.hid ha
      by_cases hb : 200 < a.bn
      · clear ha hok
        go_wp2_with fail
        go_ret
        exact ⟨true, rfl, rfl, fun h => by cases h⟩
      · by_cases hk : 100 < a.kn
        · clear ha hok
          go_wp2_with fail
          go_ret
          exact ⟨true, rfl, rfl, fun h => by cases h⟩
        · clear ha hok
          go_wp2_with fail
          go_roundw
          case rel => exact ⟨k + 1, by omega, by go_num, by first | rfl | trivial, Lib.hid fun b hb' => by
            rw [List.take_add_one, HAL.out] at hb'
            rcases List.mem_append.1 hb' with h | h
            · exact HT.out b h
            · simp only [Option.toList_some, List.mem_singleton] at h
              subst h
              exact ⟨by omega, by omega⟩⟩
          case measure => simp [intOf]; omega
    · go_wp2_with fail
      go_ret
      refine ⟨false, rfl, rfl, fun _ => ⟨by omega, fun a ha => HT.out a ?_⟩⟩
      rw [List.take_of_length_le (by have := HA.out.len; omega)]
      exact ha
end Go.Proofs.YtlikhmhomkiadaaGreatDoor

namespace Go.Proofs.YtlikhmhomkiadaaGreatDoor
set_option maxRecDepth 100000
open Go Go.RowKit

/-- The chapter's frame: what is asked of it. -/
def exF : List Nat := sealL 1 4 47 258 3 [7] 2
theorem exF_len : exF.length = 128 := by decide +kernel
theorem exF_e : sealE 1 4 47 258 3 1 2 = 0 := by decide
theorem exF_head : exF.take 18 = [1, 0, 1, 4, 47, 2, 1, 0, 0, 0, 0, 3, 0, 0, 0, 0, 0, 7] := by decide +kernel
theorem exF_pad : (exF.drop 18).take 106 = List.replicate 106 0 := by decide +kernel
theorem exF_good : goodB exF = true := by decide +kernel
theorem exF_index : ofl exF 3 = 258 := by decide +kernel
theorem exF_body : obl exF = [7] := by decide +kernel

theorem u8_size (w : World) : (sizeOf (Tryz.prog.elem 34)).run Tryz.prog w = .ok 1 w := by
  have ht : Tryz.prog.elem 34 = 5 := by kernel_rfl
  obtain ⟨i0, hi, _, hz1, _⟩ := info_parts byte_info
  rw [ht]
  simp [Go.sizeOf, typeInfo, hi, hz1]
theorem cut_to (A : Option Addr) (n cp h : Nat) (hh : h ≤ cp) (w : World) : (Instr.slice 34 (.slice A n cp) none (some (.int .i64 (h : Int))) none).run Tryz.prog w = .ok (.slice A h cp) w := by
  have ht : Tryz.prog.elem 34 = 5 := by kernel_rfl
  rw [run_slice_h w 34 A n cp (by rw [ht]; exact Tryz.underlying34) .i64 (h : Int) (by omega) (by omega), u8_size]
  simp only [Result.andThen, sliced, Int.toNat_natCast, Nat.sub_zero]
  cases A with
  | none => simp
  | some a => simp [Addr.add]
theorem cut_mid (g o n cp l h : Nat) (hl : l < cp) (hlh : l ≤ h) (hh : h ≤ cp) (w : World) : (Instr.slice 34 (.slice (some ⟨g, o, none⟩) n cp) (some (.int .i64 (l : Int))) (some (.int .i64 (h : Int))) none).run Tryz.prog w = .ok (.slice (some ⟨g, o + l, none⟩) (h - l) (cp - l)) w := by
  have ht : Tryz.prog.elem 34 = 5 := by kernel_rfl
  rw [run_slice_lh w 34 (some ⟨g, o, none⟩) n cp (by rw [ht]; exact Tryz.underlying34) .i64 .i64 (l : Int) (h : Int) (by omega) (by omega) (by omega), u8_size]
  simp only [Result.andThen, sliced, Int.toNat_natCast, Nat.mul_one]
  rw [if_neg (by omega)]
  simp [Addr.add]

/-- A new row of zero bytes. -/
def zrow (k : Nat) : Obj := .cells (madeCells #[.int .u8 0] k) 5
theorem mk_zeros (k : Nat) (hk : k ≤ 1000) (w : World) : (Instr.makeSlice 34 (.int .i64 (k : Int)) (.int .i64 (k : Int))).run Tryz.prog w = .ok (.slice (some ⟨w.heap.size, 0, none⟩) k k) (w.alloc (zrow k)) := by
  obtain ⟨i0, hi, hz0, hz1, hz2⟩ := info_parts byte_info
  rw [run_make w 34 5 i0 (.int .u8 0) Tryz.underlying34 hi hz0 .i64 .i64 (k : Int) (k : Int) (by omega) (Int.le_refl _) (by rw [hz2]; omega) (by omega), hz1, Int.toNat_natCast, Nat.mul_one]
  rfl
theorem By.zrow (w : World) (k : Nat) (hk : k ≤ 1000) : By (w.alloc (zrow k)) (some ⟨w.heap.size, 0, none⟩) k k (List.replicate k 0) := by
  refine By.of_row (heap_alloc_new w (.cells (madeCells #[.int .u8 0] k) 5)) (fun j x hx => ?_) (by intro b hb; rw [(List.mem_replicate.1 hb).2]; omega) (by simp) (Nat.le_refl _) (by omega)
  have e : (madeCells #[Value.int .u8 0] k).toList = List.replicate k (Value.int .u8 0) := toList_madeCells_one _ _
  rw [← Array.getElem?_toList, e]
  rw [List.getElem?_replicate] at hx ⊢
  split at hx
  · rename_i hj
    injection hx with hx
    subst hx
    rw [if_pos hj]
    rfl
  · cases hx

theorem By.zrow2 (w : World) (o : Obj) (k : Nat) (hk : k ≤ 1000) : By ((w.alloc o).alloc (Go.Proofs.YtlikhmhomkiadaaGreatDoor.zrow k)) (some ⟨w.heap.size + 1, 0, none⟩) k k (List.replicate k 0) := by
  rw [show w.heap.size + 1 = (w.alloc o).heap.size from by simp]
  exact By.zrow _ k hk

end Go.Proofs.YtlikhmhomkiadaaGreatDoor

namespace Go.Proofs.YtlikhmhomkiadaaGreatDoor
set_option maxRecDepth 100000
open Go Go.RowKit

theorem in_any (r b : Nat) (w : World) (hr : r < 4294967296) (hb : b < 2) :
    Calls Tryz.prog 154 #[.int .u32 r, .int .u32 b] w fun e w' => e = .returned (.int .u32 ((stp (r ^^^ b) : Nat) : Int)) ∧ w = w' := by
  by_cases h : r % 2 = b
  · have HS := Lib.hid (in_no hb h)
    have ht : (((r : Int) % 2) != (b : Int)) = false := by simp; omega
    clear h
    go_enter Tryz.func154, Tryz.ntmps154
    go_wp2_with fail
    go_ret
    exact ⟨by rw [HS.out]; rfl, rfl⟩
  · have HS := Lib.hid (in_yes hb h)
    have ht : (((r : Int) % 2) != (b : Int)) = true := by simp; omega
    have hx : bits .xor .u32 ((r : Int) / 2) 2197175160 = ((r / 2 ^^^ 2197175160 : Nat) : Int) := u32_xor_nat (r / 2) 2197175160 (by omega) (by omega)
    clear h
    go_enter Tryz.func154, Tryz.ntmps154
    go_wp2_with fail
    go_ret
    exact ⟨by rw [HS.out]; rfl, rfl⟩
end Go.Proofs.YtlikhmhomkiadaaGreatDoor

namespace Go.Proofs.YtlikhmhomkiadaaGreatDoor
set_option maxRecDepth 100000
open Go Go.RowKit

set_option maxHeartbeats 400000 in
theorem rext_any (A : Option Addr) (l : List Nat) (n c B s : Nat) (w : World) (hl : l.length = n) (hr : Rd w B A l) (hm : n ≤ maxLen) (hs : s < 4294967296) :
    Calls Tryz.prog 136 #[.int .u32 s, .slice A n c] w fun e w' => e = .returned (.int .u32 ((crcE s l : Nat) : Int)) ∧ w = w' := by
  unfold maxLen at hm
  have HL := Lib.hid hl
  clear hl
  go_enter Tryz.func136, Tryz.ntmps136
  go_wp2_with fail
  go_loop [5, 6] (fun vr vi => ∃ k t : Nat, k ≤ n ∧ vi = .int .i64 k ∧ vr = .int .u32 t ∧ t < 4294967296 ∧ Hid (t = feed (inv s) (l.take k))) (fun _ vi => n - (intOf vi).toNat)
  case atStart => exact ⟨0, inv s, Nat.zero_le _, rfl, by unfold inv; go_num, inv_lt s, Lib.hid rfl⟩
  case round =>
    obtain ⟨k, t, hk, rfl, rfl, ht, HT⟩ := hrel
    by_cases hlt : k < n
    · obtain ⟨g, o, x, hA, _, hx, hx2, hcx⟩ := hr.at_ (k := k) (by rw [HL.out]; exact hlt)
      subst hA
      have HX : Hid (inb t x = feed (inv s) (l.take (k + 1))) := Lib.hid (by rw [feed_take hx, ← HT.out])
      have hin := inb_lt ht hx2
      clear hx HT
      go_wp2_with fail
      go_loop [5, 7, 8] (fun vr vx vj => ∃ j u y : Nat, j ≤ 8 ∧ vj = .int .i64 j ∧ vr = .int .u32 u ∧ vx = .int .u32 y ∧ u < 4294967296 ∧ y < 256 ∧ Hid (y = x / 2 ^ j) ∧ Hid (stps (8 - j) (u ^^^ y) = inb t x)) (fun _ _ vj => 8 - (intOf vj).toNat)
      case atStart => exact ⟨0, t, x, by omega, rfl, rfl, by go_num, ht, hx2, Lib.hid (by simp), Lib.hid rfl⟩
      case round =>
        obtain ⟨j, u, y, hj, rfl, rfl, rfl, hu, hy, HY, HU⟩ := hrel
        by_cases hj8 : j < 8
        · have HU2 := Lib.hid (inb_step hj8 HU.out)
          have HY2 : Hid (y / 2 = x / 2 ^ (j + 1)) := Lib.hid (by rw [HY.out, Nat.div_div_eq_div_mul, Nat.pow_succ])
          have hy2 : y % 2 < 2 := Nat.mod_lt _ (by omega)
          have hu2 : stp (u ^^^ (y % 2)) < 4294967296 := stp_lt (xor_lt32 hu (by omega))
          go_wp2_with fail
          refine (in_any u (y % 2) _ hu hy2).mono ?_
          rintro e w' ⟨rfl, rfl⟩
          go_wp2_with fail
          go_round
          case rel => exact ⟨j + 1, _, y / 2, by omega, by go_num, rfl, by go_num, hu2, by omega, HY2, HU2⟩
          case measure => simp [intOf]; omega
        · have HF : Hid (u = inb t x) := by
            obtain rfl : j = 8 := by omega
            have h1 := HU.out
            have h2 := HY.out
            obtain rfl : y = 0 := by omega
            rw [Nat.sub_self, Nat.xor_zero] at h1
            exact Lib.hid h1
          go_wp2_with fail
          go_round
          case rel => exact ⟨k + 1, u, by omega, by go_num, rfl, hu, Lib.hid (HF.out.trans HX.out)⟩
          case measure => simp [intOf]; omega
    · have HF : Hid (inv t = crcE s l) := by
        have := HT.out
        rw [List.take_of_length_le (by have := HL.out; omega)] at this
        exact Lib.hid (by rw [this]; rfl)
      go_wp2_with fail
      go_ret
      exact ⟨by rw [← HF.out]; unfold inv; go_num, rfl⟩
theorem rsum_any (A : Option Addr) (l : List Nat) (n c B : Nat) (w : World) (hl : l.length = n) (hr : Rd w B A l) (hm : n ≤ maxLen) :
    Calls Tryz.prog 96 #[.slice A n c] w fun e w' => e = .returned (.int .u32 ((crcS l : Nat) : Int)) ∧ w = w' := by
  have HM := Lib.hid hm
  go_enter Tryz.func96, Tryz.ntmps96
  go_wp2_with fail
  refine (rext_any A l n c B 0 _ hl hr HM.out (by omega)).mono ?_
  rintro e w' ⟨rfl, rfl⟩
  go_wp2_with fail
  go_ret
  exact ⟨rfl, rfl⟩
end Go.Proofs.YtlikhmhomkiadaaGreatDoor

namespace Go.Proofs.YtlikhmhomkiadaaGreatDoor
set_option maxRecDepth 100000
open Go Go.RowKit

theorem rsum_by (A : Option Addr) (l : List Nat) (n c : Nat) (w : World) (hb : By w A n c l) :
    Calls Tryz.prog 96 #[.slice A n c] w fun e w' => e = .returned (.int .u32 ((crcS l : Nat) : Int)) ∧ w = w' :=
  rsum_any A l n c _ w hb.len hb.rd (by have := hb.cap; have := hb.most; unfold maxLen; omega)
/-- A slice value's length. -/
def lenOf : Value → Nat
  | .slice _ n _ => n
  | _ => 0
theorem zeros_snoc (l : List Nat) (k : Nat) : l ++ List.replicate k 0 ++ [0] = l ++ List.replicate (k + 1) 0 := by
  rw [List.append_assoc, ← List.replicate_succ']

set_option maxRecDepth 100000 in
set_option maxHeartbeats 3200000 in
theorem rseal_arg (a b c d e s : Int) (A : Option Addr) (n cp : Nat) (w : World) (h : roomN s = 0 ∨ mayB a b c d e = false) :
    Calls Tryz.prog 39 #[.agg #[.int .i64 a, .int .i64 b, .int .i64 c, .int .i64 d, .int .i64 e], .slice A n cp, .int .i64 s] w fun r w' => r = .returned (.tuple #[.slice none 0 0, .int .i64 2]) ∧ Ext w w' := by
  have hE := (Ext.refl w).alloc (.cells #[.int .i64 a, .int .i64 b, .int .i64 c, .int .i64 d, .int .i64 e] 33)
  have hT := heap_alloc_new w (.cells #[.int .i64 a, .int .i64 b, .int .i64 c, .int .i64 d, .int .i64 e] 33)
  have HE := Lib.hid hE
  obtain ⟨⟨i0, i1, i2, i3, i4⟩, _⟩ := five_cells hT
  clear hE hT
  by_cases hm : mayB a b c d e = false
  · clear h
    go_enter Tryz.func39, Tryz.ntmps39
    go_wp2_with fail
    refine (rprint_any _ _ _ _ _ _).mono ?_
    rw [pl_no hm, pr_no hm]
    rintro r w1 ⟨A1, c1, rfl, _, hx⟩
    have HE := Lib.hid (HE.out.trans hx)
    clear hx i0 i1 i2 i3 i4
    go_wp2_with fail
    go_ret2
    exact ⟨rfl, HE.out⟩
  · have h0 : roomN s = 0 := by rcases h with h | h; exact h; exact absurd h hm
    have hm' : mayB a b c d e = true := by simpa using hm
    clear h hm
    go_enter Tryz.func39, Tryz.ntmps39
    go_wp2_with fail
    refine (rprint_any _ _ _ _ _ _).mono ?_
    rw [pr_yes hm']
    rintro r w1 ⟨A1, c1, rfl, _, hx⟩
    have HE := Lib.hid (HE.out.trans hx)
    clear hx i0 i1 i2 i3 i4 hm'
    go_wp2_with fail
    refine (rroom_any _ _).mono ?_
    rw [h0]
    rintro r w2 ⟨rfl, rfl⟩
    go_wp2_with fail
    go_ret2
    exact ⟨rfl, HE.out⟩

set_option maxRecDepth 100000 in
set_option maxHeartbeats 3200000 in
theorem rseal_long (a b c d e s : Int) (A : Option Addr) (n cp : Nat) (w : World) (h0 : roomN s ≠ 0) (hm : mayB a b c d e = true) (hn : roomN s < n) :
    Calls Tryz.prog 39 #[.agg #[.int .i64 a, .int .i64 b, .int .i64 c, .int .i64 d, .int .i64 e], .slice A n cp, .int .i64 s] w fun r w' => r = .returned (.tuple #[.slice none 0 0, .int .i64 3]) ∧ Ext w w' := by
  have hE := (Ext.refl w).alloc (.cells #[.int .i64 a, .int .i64 b, .int .i64 c, .int .i64 d, .int .i64 e] 33)
  have hT := heap_alloc_new w (.cells #[.int .i64 a, .int .i64 b, .int .i64 c, .int .i64 d, .int .i64 e] 33)
  have HE := Lib.hid hE
  obtain ⟨⟨i0, i1, i2, i3, i4⟩, _⟩ := five_cells hT
  have g0 : (((roomN s : Nat) : Int) == 0) = false := by simpa using h0
  have HR : Hid (∀ w, Calls Tryz.prog 94 #[.int .i64 s] w fun e w' => e = .returned (.int .i64 (roomN s)) ∧ w = w') := Lib.hid (rroom_any s)
  clear hE hT h0
  go_enter Tryz.func39, Tryz.ntmps39
  go_wp2_with fail
  refine (rprint_any _ _ _ _ _ _).mono ?_
  rw [pr_yes hm]
  rintro r w1 ⟨A1, c1, rfl, _, hx⟩
  have HE := Lib.hid (HE.out.trans hx)
  clear hx i0 i1 i2 i3 i4 hm
  generalize roomN s = R at *
  go_wp2_with fail
  refine (HR.out _).mono ?_
  rintro r w2 ⟨rfl, rfl⟩
  go_wp2_with fail
  refine (HR.out _).mono ?_
  rintro r w2 ⟨rfl, rfl⟩
  go_wp2_with fail
  go_ret2
  exact ⟨rfl, HE.out⟩

theorem own_lower {w : World} {b b' n : Nat} {e : TypeId} {s : Nat} {v : Value} {xs : List Value} (h : w.ownsRow b e s v n xs) (hb : b' ≤ b) : w.ownsRow b' e s v n xs := by
  refine ⟨h.1, ?_⟩
  rcases h.2 with h0 | ⟨g, cap, cur, hv, hbg, h1⟩
  · exact .inl h0
  · exact .inr ⟨g, cap, cur, hv, Nat.le_trans hb hbg, h1⟩
set_option maxRecDepth 100000 in
set_option maxHeartbeats 6400000 in
theorem rseal_yes_own (a b c d e : Int) (S : Nat) (A : Option Addr) (n cp : Nat) (body : List Nat) (w : World) (hb : By w A n cp body) (h0 : roomN (S : Int) ≠ 0) (hm : mayB a b c d e = true) (hn : n ≤ roomN (S : Int)) :
    Calls Tryz.prog 39 #[.agg #[.int .i64 a, .int .i64 b, .int .i64 c, .int .i64 d, .int .i64 e], .slice A n cp, .int .i64 S] w fun r w' => ∃ A' c', r = .returned (.tuple #[.slice A' (64 * S) c', .int .i64 0]) ∧ By w' A' (64 * S) c' (frameL body (pl a b c d e) S) ∧ Ext w w' ∧ w'.ownsRow w.heap.size 5 1 (.slice A' (64 * S) c') (64 * S) (vb (frameL body (pl a b c d e) S)) := by
  obtain ⟨i0, hi, hz0, hz1, hz2⟩ := info_parts byte_info
  have hE := (Ext.refl w).alloc (.cells #[.int .i64 a, .int .i64 b, .int .i64 c, .int .i64 d, .int .i64 e] 33)
  have hT := heap_alloc_new w (.cells #[.int .i64 a, .int .i64 b, .int .i64 c, .int .i64 d, .int .i64 e] 33)
  have HE := Lib.hid hE
  have HB := Lib.hid hb
  obtain ⟨⟨j0, j1, j2, j3, j4⟩, _⟩ := five_cells hT
  have g0 : (((roomN (S : Int) : Nat) : Int) == 0) = false := by simpa using h0
  have HR : Hid (∀ w, Calls Tryz.prog 94 #[.int .i64 S] w fun e w' => e = .returned (.int .i64 (roomN (S : Int))) ∧ w = w') := Lib.hid (rroom_any S)
  have hfit := room_fits hn (by omega)
  have h15 : (pl a b c d e).length = 15 := by rw [pl_yes hm, tagBytes_len]
  have hN : body.length = n := Bs.len hb
  obtain ⟨m, hm4⟩ : ∃ m : Nat, m = 64 * S - 21 - n := ⟨_, rfl⟩
  have HH : Hid (digs 2 n ++ pl a b c d e ++ body ++ List.replicate m 0 = frameH body (pl a b c d e) S) := Lib.hid (by rw [← hN]; exact frame_split body _ S m (by rw [hN]; exact hm4))
  have hm5 : 17 + n + m ≤ 64 * S - 4 := by omega
  have hm6 : 64 * S - 4 ≤ 17 + n + m := by omega
  have HM5 : Hid (2 + 15 + n + m = 64 * S - 4 ∧ 64 * S - 4 + 4 = 64 * S) := Lib.hid (by omega)
  have hroomle := roomN_le (S : Int)
  have HHlt : Hid (∀ x ∈ frameH body (pl a b c d e) S, x < 256) := Lib.hid (frameH_lt (Bs.rd hb).lt (by rw [pl_yes hm]; exact tagBytes_lt _ _ _ _ _))
  have hplt : ∀ x ∈ pl a b c d e, x < 256 := by rw [pl_yes hm]; exact tagBytes_lt _ _ _ _ _
  have HPlt := Lib.hid hplt
  clear hE hT h0 hb hN hm4 hplt
  go_enter Tryz.func39, Tryz.ntmps39
  go_wp2_with fail
  refine (rprint_any _ _ _ _ _ _).mono ?_
  rw [h15, pr_yes hm]
  rintro r w1 ⟨A1, c1, rfl, hb1, hx⟩
  have HB1 := Lib.hid hb1
  have HE := Lib.hid (HE.out.trans hx)
  clear hx j0 j1 j2 j3 j4 hm hb1
  generalize roomN (S : Int) = R at *
  generalize hpl : pl a b c d e = own at *
  have HPL := Lib.hid hpl
  clear hpl
  go_wp2_with fail
  refine (HR.out _).mono ?_
  rintro r w2 ⟨rfl, rfl⟩
  go_wp2_with fail
  refine (HR.out _).mono ?_
  rintro r w2 ⟨rfl, rfl⟩
  go_wp2_with fail
  refine (rput_yes 2 n _ (fits_iff.2 ⟨rfl, by omega, by show n < 65536; omega⟩)).mono ?_
  rintro r w2 ⟨A2, c2, rfl, ho2, hx2⟩
  have HO2 := Lib.hid ho2
  have HX2 : Hid (Ext w1 w2) := Lib.hid hx2
  have hsz2 := Ext.size HX2.out
  clear ho2 hx2
  go_wp2_with (at_builtin; refine wpList_append_by rfl _ _ 34 rfl w1.heap.size 5 i0 Tryz.underlying34 hi hz0 hz1 hz2 _ 2 (vb (digs 2 n)) rfl HO2.out A1 15 c1 own rfl (HB1.out.ext HX2.out) (by omega) hsz2 ?_)
  intro v3 w3 hown hg
  obtain ⟨hx, A3, c3, rfl, _, ho3⟩ := app_step HX2.out HO2.out hg hown (digs_lt _ _) HB1.out.rd.lt
  have HO3 := Lib.hid ho3
  have HX3 := Lib.hid hx
  have hsz3 := Ext.size HX3.out
  clear hx ho3 hown hg hsz2 HO2 HX2
  go_wp2_with (at_builtin; refine wpList_append_by rfl _ _ 34 rfl w1.heap.size 5 i0 Tryz.underlying34 hi hz0 hz1 hz2 _ (2 + 15) (vb (digs 2 n ++ own)) rfl HO3.out A n cp body rfl (HB.out.ext (HE.out.trans HX3.out)) (by omega) hsz3 ?_)
  intro v4 w4 hown hg
  obtain ⟨hx, A4, c4, rfl, _, ho4⟩ := app_step HX3.out HO3.out hg hown (by intro x hx; rcases List.mem_append.1 hx with h | h; exact digs_lt _ _ x h; exact HPlt.out x h) HB.out.rd.lt
  have HO4 := Lib.hid ho4
  have HX4 := Lib.hid hx
  clear hx ho4 hown hg hsz3 HO3 HX3
  have HPre : Hid (∀ x ∈ digs 2 n ++ own ++ body, x < 256) := Lib.hid (by
    intro x hx
    rcases List.mem_append.1 hx with h | h
    · rcases List.mem_append.1 h with h | h
      · exact digs_lt _ _ x h
      · exact HPlt.out x h
    · exact HB.out.rd.lt x h)
  go_wp2_with fail
  generalize digs 2 n ++ own ++ body = Pre at *
  go_loopw [10] (fun v wr => ∃ k : Nat, k ≤ m ∧ ∃ A' c' L, v = .slice A' (17 + n + k) c' ∧ Hid (L = Pre ++ List.replicate k 0) ∧ Hid (∀ x ∈ L, x < 256) ∧ Hid (wr.ownsRow w1.heap.size 5 1 (.slice A' (17 + n + k) c') (17 + n + k) (vb L)) ∧ Hid (Ext w1 wr)) (fun v _ => 17 + n + m - lenOf v)
  case atStart => exact ⟨0, Nat.zero_le _, A4, c4, Pre, rfl, Lib.hid (by rw [List.replicate_zero, List.append_nil]), HPre, HO4, HX4⟩
  case round =>
    obtain ⟨k, hk, A5, c5, L, rfl, HLk, HLt, HO5, HX5⟩ := hrel
    have hsz5 := Ext.size HX5.out
    by_cases hlt : k < m
    · obtain ⟨Z, hZ⟩ : ∃ Z, Z = [0] := ⟨_, rfl⟩
      have hlit := By.lit wr [0] 5 (by decide) (by decide) #[.int .u8 0] rfl
      rw [← hZ] at hlit
      have HY : Hid (By (wr.alloc (.cells #[.int .u8 0] 5)) (some ⟨wr.heap.size, 0, none⟩) 1 1 Z) := Lib.hid (by rw [hZ] at hlit ⊢; exact hlit)
      have HZ1 : Hid (Z = [0]) := Lib.hid hZ
      have hsz6 : w1.heap.size ≤ (wr.alloc (.cells #[.int .u8 0] 5)).heap.size := Nat.le_trans hsz5 (by simp)
      clear hlit hZ
      go_wp2_with (at_builtin; refine wpList_append_by rfl _ _ 34 rfl w1.heap.size 5 i0 Tryz.underlying34 hi hz0 hz1 hz2 _ (17 + n + k) (vb L) rfl (HO5.out.alloc _) (some ⟨wr.heap.size, 0, none⟩) 1 1 Z rfl HY.out (by omega) hsz6 ?_)
      intro v6 w6 hown hg
      obtain ⟨hx, A6, c6, rfl, hb6, ho6⟩ := app_step (HX5.out.alloc _) (HO5.out.alloc _) hg hown HLt.out (by rw [HZ1.out]; decide)
      have HL6 : Hid (L ++ Z = Pre ++ List.replicate (k + 1) 0) := Lib.hid (by rw [HZ1.out, HLk.out, zeros_snoc])
      have HLt6 := Lib.hid hb6.rd.lt
      have HO6 := Lib.hid ho6
      have HX6 := Lib.hid hx
      clear hx ho6 hown hg hsz6 HY HO5 HX5 hb6
      generalize L ++ Z = L6 at *
      go_wp2_with fail
      go_roundw
      case rel => exact ⟨k + 1, by omega, A6, c6, L6, rfl, HL6, HLt6, HO6, HX6⟩
      case measure => simp [lenOf]; omega
    · have hkm : k = m := by omega
      subst hkm
      have hLF : L = frameH body own S := HLk.out.trans HH.out
      have hs : crcS L < 4294967296 := crcE_lt _ _
      have HZ : Hid (L ++ digs 4 (crcS L) = frameL body own S) := Lib.hid (by rw [hLF]; rfl)
      have HB5 := Lib.hid (Bs.of_own HO5.out HLt.out)
      clear hLF
      generalize hz : crcS L = z at *
      go_wp2_with fail
      refine (rsum_by _ L _ _ _ HB5.out).mono ?_
      rw [hz]
      rintro r w6 ⟨rfl, rfl⟩
      have HZz := Lib.hid hz
      clear hz
      go_wp2_with fail
      refine (rput_yes 4 z _ (fits_iff.2 ⟨rfl, by omega, by show z < 4294967296; omega⟩)).mono ?_
      rintro r w7 ⟨A7, c7, rfl, ho7, hx7⟩
      obtain ⟨D, hD⟩ : ∃ D, D = digs 4 z := ⟨_, rfl⟩
      have hb7 := Bs.of_own ho7 (digs_lt _ _)
      rw [← hD] at hb7
      have HZ := HZ.out
      rw [← hD] at HZ
      have HZ := Lib.hid HZ
      have HB7 : Hid (By w7 A7 4 c7 D) := Lib.hid hb7
      have HX7 : Hid (Ext wr w7) := Lib.hid hx7
      have HO7 := Lib.hid (own_ext HO5.out HX7.out)
      have HX := Lib.hid (HX5.out.trans HX7.out)
      have hsz7 := Ext.size HX.out
      clear ho7 hx7 hb7 hD
      go_wp2_with (at_builtin; refine wpList_append_by rfl _ _ 34 rfl w1.heap.size 5 i0 Tryz.underlying34 hi hz0 hz1 hz2 _ (17 + n + k) (vb L) rfl HO7.out A7 4 c7 D rfl HB7.out (by omega) hsz7 ?_)
      intro v8 w8 hown hg
      have e8 : 17 + n + k + 4 = 64 * S := by omega
      rw [e8] at hown
      obtain ⟨hx, A8, c8, rfl, hb8, ho8⟩ := app_step HX.out HO7.out hg hown HLt.out HB7.out.rd.lt
      rw [HZ.out] at hb8 ho8
      have HB8 := Lib.hid hb8
      have HO8 := Lib.hid (own_lower ho8 HE.out.size)
      have HE8 := Lib.hid (HE.out.trans hx)
      clear hx hb8 ho8 hown hg hsz7 e8
      go_wp2_with fail
      go_ret2
      exact ⟨A8, c8, rfl, by rw [HPL.out]; exact HB8.out, HE8.out, by rw [HPL.out]; exact HO8.out⟩

theorem rseal_yes (a b c d e : Int) (S : Nat) (A : Option Addr) (n cp : Nat) (body : List Nat) (w : World) (hb : By w A n cp body) (h0 : roomN (S : Int) ≠ 0) (hm : mayB a b c d e = true) (hn : n ≤ roomN (S : Int)) :
    Calls Tryz.prog 39 #[.agg #[.int .i64 a, .int .i64 b, .int .i64 c, .int .i64 d, .int .i64 e], .slice A n cp, .int .i64 S] w fun r w' => ∃ A' c', r = .returned (.tuple #[.slice A' (64 * S) c', .int .i64 0]) ∧ By w' A' (64 * S) c' (frameL body (pl a b c d e) S) ∧ Ext w w' :=
  (rseal_yes_own a b c d e S A n cp body w hb h0 hm hn).mono fun _ _ ⟨A', c', h1, h2, h3, _⟩ => ⟨A', c', h1, h2, h3⟩
theorem rseal_own (a b c d e s : Int) (A : Option Addr) (n cp : Nat) (body : List Nat) (w : World) (hb : By w A n cp body) :
    Calls Tryz.prog 39 #[.agg #[.int .i64 a, .int .i64 b, .int .i64 c, .int .i64 d, .int .i64 e], .slice A n cp, .int .i64 s] w fun r w' => ∃ A' c', r = .returned (.tuple #[.slice A' (sealL a b c d e body s).length c', .int .i64 (sealE a b c d e n s)]) ∧ By w' A' (sealL a b c d e body s).length c' (sealL a b c d e body s) ∧ Ext w w' ∧ w'.ownsRow w.heap.size 5 1 (.slice A' (sealL a b c d e body s).length c') (sealL a b c d e body s).length (vb (sealL a b c d e body s)) := by
  have hlen : body.length = n := Bs.len hb
  by_cases h : roomN s = 0 ∨ mayB a b c d e = false
  · have hE := sealE_arg (n := n) h
    rw [sealL_no (by rw [hlen, hE]; omega), hE]
    exact (rseal_arg a b c d e s A n cp w h).mono fun _ w' ⟨h1, h2⟩ => ⟨none, 0, h1, By.nil_ w', h2, World.ownsRow_nil _ _ _ _⟩
  · have h0 : roomN s ≠ 0 := fun hh => h (.inl hh)
    have hm : mayB a b c d e = true := by
      by_cases hm : mayB a b c d e = true
      · exact hm
      · exact absurd (.inr (by simpa using hm)) h
    by_cases hn : roomN s < n
    · have hE := sealE_long h0 hm hn
      rw [sealL_no (by rw [hlen, hE]; omega), hE]
      exact (rseal_long a b c d e s A n cp w h0 hm hn).mono fun _ w' ⟨h1, h2⟩ => ⟨none, 0, h1, By.nil_ w', h2, World.ownsRow_nil _ _ _ _⟩
    · obtain ⟨S, rfl⟩ := Int.eq_ofNat_of_zero_le (show 0 ≤ s by have := roomN_pos (s := s) (by omega); omega)
      have hE := sealE_yes h0 hm (show n ≤ roomN (S : Int) by omega)
      have hfit := room_fits (show n ≤ roomN (S : Int) by omega) (by omega)
      rw [sealL_yes (by rw [hlen]; exact hE), hE, Int.toNat_natCast, frameL_len (by rw [pl_yes hm, tagBytes_len]) (by omega) (by omega)]
      exact rseal_yes_own a b c d e S A n cp body w hb h0 hm (by omega)
theorem rseal_any (a b c d e s : Int) (A : Option Addr) (n cp : Nat) (body : List Nat) (w : World) (hb : By w A n cp body) :
    Calls Tryz.prog 39 #[.agg #[.int .i64 a, .int .i64 b, .int .i64 c, .int .i64 d, .int .i64 e], .slice A n cp, .int .i64 s] w fun r w' => ∃ A' c', r = .returned (.tuple #[.slice A' (sealL a b c d e body s).length c', .int .i64 (sealE a b c d e n s)]) ∧ By w' A' (sealL a b c d e body s).length c' (sealL a b c d e body s) ∧ Ext w w' :=
  (rseal_own a b c d e s A n cp body w hb).mono fun _ _ ⟨A', c', h1, h2, h3, _⟩ => ⟨A', c', h1, h2, h3⟩
end Go.Proofs.YtlikhmhomkiadaaGreatDoor
