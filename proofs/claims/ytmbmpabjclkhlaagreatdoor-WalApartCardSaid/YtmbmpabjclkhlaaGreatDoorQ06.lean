/-
  The contracts of the frame's small functions (Room, wholeSectors, isZero; the document's Room and blank), and of the library's Clone, Equal, Count at bytes.
-/
import Derived.Test.YtmbmpabjclkhlaaGreatDoorQ00
import Derived.Test.YtmbmpabjclkhlaaGreatDoorQ01
import Derived.Test.YtmbmpabjclkhlaaGreatDoorQ05
import Derived.Test.YtmbmpabjclkhlaaGreatDoorProg
import Derived.WalkKit
import Derived.WalkSpells
import Derived.WalkLawsBesides
import Derived.BigQuiet
import Derived.Lib.Hide
import Derived.Lib.SliceRun
import Derived.Shelf.Bytes.SlCountOne
import Derived.Shelf.Bytes.SlSmallAll
import Derived.Outline
import Derived.Deep.RegionHeld3
import Derived.Laws.Tables
import Derived.Laws.CopyOwn
import Derived.IntWalk
import Derived.Lib.AppendZeros
import Derived.OwnWalk
namespace Go.Proofs.YtmbmpabjclkhlaaGreatDoor
set_option maxRecDepth 100000
section
open Go Go.RowKit
theorem room_any (s : Int) (w : World) :
    Calls Tryz.prog 195 #[.int .i64 s] w fun e w' => e = .returned (.int .i64 (roomN s)) ∧ w = w' := by
  by_cases h1 : s = 1
  · subst h1
    go_enter Tryz.func195, Tryz.ntmps195
    go_wp2_with fail
    go_ret
    exact ⟨rfl, rfl⟩
  · by_cases h2 : s = 2
    · subst h2
      go_enter Tryz.func195, Tryz.ntmps195
      go_wp2_with fail
      go_ret
      exact ⟨rfl, rfl⟩
    · have g1 : (s != 1) = true := by simp; omega
      have g2 : (s != 2) = true := by simp; omega
      have HF := Lib.hid (roomN_no h1 h2)
      clear h1 h2
      go_enter Tryz.func195, Tryz.ntmps195
      go_wp2_with fail
      go_ret
      exact ⟨by rw [HF.out]; rfl, rfl⟩
def wsN (n : Nat) : Nat := if n % 64 = 0 then n / 64 else 0
theorem whole_any (A : Option Addr) (n c : Nat) (w : World) (hn : n ≤ 9223372036854775807) :
    Calls Tryz.prog 278 #[.slice A n c] w fun e w' => e = .returned (.int .i64 (wsN n : Nat)) ∧ w = w' := by
  by_cases h : n % 64 = 0
  · have HF : Hid (wsN n = n / 64) := Lib.hid (by unfold wsN; rw [if_pos h])
    go_enter Tryz.func278, Tryz.ntmps278
    go_wp2_with fail
    go_ret
    exact ⟨by rw [HF.out]; rfl, rfl⟩
  · have HF : Hid (wsN n = 0) := Lib.hid (by unfold wsN; rw [if_neg h])
    go_enter Tryz.func278, Tryz.ntmps278
    go_wp2_with fail
    go_ret
    exact ⟨by rw [HF.out]; rfl, rfl⟩
end
section
open Go Go.RowKit Go.Lib
theorem By.cells {w : World} {A : Option Addr} {n c : Nat} {l : List Nat} (h : By w A n c l) {ad : Addr} (hA : A = some ad) : ∀ i, i < n → w.cell? (ad.add i) = some (.int .u8 ((l.map fun (b : Nat) => (b : Int)).getD i 0)) := by
  intro i hi
  obtain ⟨g, o, x, hA2, _, hx, _, hc⟩ := h.rd.at_ (k := i) (by rw [h.len]; exact hi)
  rw [hA] at hA2
  injection hA2 with hA2
  subst hA2
  rw [Addr.add_lit, hc]
  have e : (l.map fun (b : Nat) => (b : Int)).getD i 0 = (x : Int) := by
    rw [List.getD_eq_getElem?_getD, List.getElem?_map, hx]
    rfl
  rw [e]
theorem bytesOf_inj {l l' : List Nat} (hl : ∀ b ∈ l, b < 256) (hl' : ∀ b ∈ l', b < 256) (h : bytesOf (l.map fun (b : Nat) => (b : Int)) = bytesOf (l'.map fun (b : Nat) => (b : Int))) : l = l' := by
  unfold bytesOf at h
  rw [List.map_map, List.map_map] at h
  have hlen : l.length = l'.length := by
    have := congrArg List.length h
    simpa using this
  refine List.ext_getElem hlen fun i h1 h2 => ?_
  have e := congrArg (fun z => z[i]?) h
  simp only [List.getElem?_map, List.getElem?_eq_getElem h1, List.getElem?_eq_getElem h2, Option.map_some, Option.some.injEq, Function.comp, Int.toNat_natCast] at e
  have b1 := hl _ (List.getElem_mem h1)
  have b2 := hl' _ (List.getElem_mem h2)
  have e2 := congrArg UInt8.toNat e
  simp only [UInt8.toNat_ofNat'] at e2
  omega
theorem count_zero {l : List Nat} (hl : ∀ b ∈ l, b < 256) : (((countByte (bytesOf (l.map fun (b : Nat) => (b : Int))) (Int.toNat 0).toUInt8 : Nat) : Int) == (l.length : Int)) = zeroB l := by
  have e : countByte (bytesOf (l.map fun (b : Nat) => (b : Int))) (Int.toNat 0).toUInt8 = l.countP (fun x => x == 0) := by
    unfold countByte bytesOf
    rw [List.count, List.map_map, List.countP_map]
    refine List.countP_congr fun x hx => ?_
    have hb := hl x hx
    simp only [Function.comp, Int.toNat_natCast, beq_iff_eq]
    constructor
    · intro h
      have := congrArg UInt8.toNat h
      simp at this
      omega
    · rintro rfl
      rfl
  rw [e]
  by_cases h : zeroB l = true
  · have : l.countP (fun x => x == 0) = l.length := by
      rw [List.countP_eq_length]
      exact fun a ha => List.all_eq_true.1 h a ha
    rw [this, h]
    simp
  · have h' : zeroB l = false := by simpa using h
    rw [h']
    have : l.countP (fun x => x == 0) ≠ l.length := by
      rw [Ne, List.countP_eq_length]
      intro hh
      exact h (List.all_eq_true.2 hh)
    simp
    omega
theorem conv_by {w : World} {A : Option Addr} {n c : Nat} {l : List Nat} (h : By w A n c l) : (convert 45 9 (.slice A n c)).run Tryz.prog w = .ok (.string (strOfNums (l.map fun (b : Nat) => (b : Int)))) w := by
  by_cases hn : n = 0
  · subst hn
    have hl0 : l = [] := List.eq_nil_of_length_eq_zero h.len
    subst hl0
    exact run_convert_bytes_zero w 45 5 Tryz.underlying45 Tryz.underlying5 A c _ Tryz.underlying9
  · obtain ⟨g, o, x, hA, _⟩ := h.rd.at_ (k := 0) (by rw [h.len]; omega)
    subst hA
    exact run_convert_bytes_arg (P := Tryz.prog) w 45 5 Tryz.underlying45 Tryz.underlying5 g o n c (l.map fun (b : Nat) => (b : Int)) (by rw [List.length_map, h.len]) (fun i hi => by have := h.cells rfl i hi; rwa [Addr.add_lit] at this) _ Tryz.underlying9
theorem equal_by (A A' : Option Addr) (l l' : List Nat) (n n' c c' : Nat) (w : World) (hb : By w A n c l) (hb' : By w A' n' c' l') :
    Calls Tryz.prog 242 #[.slice A n c, .slice A' n' c'] w fun e w' => e = .returned (.bool (decide (l = l'))) ∧ w = w' := by
  have h1 := conv_by hb
  have h2 := conv_by hb'
  have HF : Hid (decide (l = l') = ((strOfNums (l.map fun (b : Nat) => (b : Int))).toList == (strOfNums (l'.map fun (b : Nat) => (b : Int))).toList)) := by
    refine Lib.hid ?_
    rw [strOfNums_toList, strOfNums_toList]
    by_cases h : l = l'
    · subst h; simp
    · rw [decide_eq_false h]
      symm
      rw [beq_eq_false_iff_ne]
      exact fun hh => h (bytesOf_inj hb.rd.lt hb'.rd.lt hh)
  clear hb hb'
  go_enter Tryz.func242, Tryz.ntmps242
  go_wp2_with fail
  go_ret
  exact ⟨by rw [HF.out]; rfl, rfl⟩
theorem own_made (w : World) : (w.alloc (.cells #[] 5)).ownsRow w.heap.size 5 1 (.slice (some ⟨w.heap.size, 0, none⟩) 0 0) 0 (vb []) := World.ownsRow_made w #[] 0 (Nat.le_refl _) (Nat.zero_le _) rfl
theorem clone_by (A : Option Addr) (l : List Nat) (n c : Nat) (w : World) (hb : By w A n c l) (hm : n ≤ 140737488355328) :
    Calls Tryz.prog 281 #[.slice A n c] w fun e w' => ∃ A' c', e = .returned (.slice A' n c') ∧ By w' A' n c' l ∧ Ext w w' ∧ w'.ownsRow w.heap.size 5 1 (.slice A' n c') n (vb l) := by
  obtain ⟨i0, hi, hz0, hz1, hz2⟩ := info_parts byte_info
  have q22 : ∀ (w : World) (a : Option Addr) (n c n' c' : Nat), (binOp .eql 45 (.slice a n c) (.slice none n' c')).run Tryz.prog w = .ok (.bool a.isNone) w := fun w a n c n' c' => Lib.run_eql_slice_nil w _ _ a n c n' c' Tryz.underlying45
  have HB := Lib.hid hb
  cases A with
  | none =>
    obtain rfl := Bs.nil_ hb rfl
    have hn : n = 0 := by have := Bs.cap hb; omega
    subst hn
    have hl0 : l = [] := List.eq_nil_of_length_eq_zero (Bs.len hb)
    subst hl0
    clear hb
    go_enter Tryz.func281, Tryz.ntmps281
    go_wp2_with fail
    go_ret
    exact ⟨none, 0, rfl, By.nil_ _, Ext.refl _, World.ownsRow_nil _ _ _ _⟩
  | some ad =>
    have HX := Lib.hid ((Ext.refl w).alloc (.cells #[] 5))
    have HO := Lib.hid (own_made w)
    clear hb
    go_enter Tryz.func281, Tryz.ntmps281
    go_wp2_with (at_builtin; refine wpList_append_by rfl _ _ 45 rfl w.heap.size 5 i0 Tryz.underlying45 hi hz0 hz1 hz2 _ 0 (vb []) rfl HO.out (some ad) n c l rfl (HB.out.ext HX.out) (by omega) (Ext.size HX.out) ?_)
    intro v2 w2 hown hg
    obtain ⟨hx, A2, c2, rfl, hb2, ho2⟩ := app_step (l1 := []) HX.out HO.out hg hown (by simp) HB.out.rd.lt
    have HX2 := Lib.hid hx
    have HB2 := Lib.hid hb2
    have HO2 := Lib.hid ho2
    clear hx hb2 ho2 hown hg
    go_wp2_with fail
    go_ret
    exact ⟨A2, c2, rfl, HB2.out, HX2.out, HO2.out⟩
set_option maxRecDepth 1000000 in
theorem count_by (A : Option Addr) (l : List Nat) (n c g o d : Nat) (w : World) (hb : By w A n c l) (hc : w.cell? ⟨g, o, none⟩ = some (.int .u8 0)) :
    Calls Tryz.prog 294 #[.slice A n c, .slice (some ⟨g, o, none⟩) 1 d] w fun e w' => e = .returned (.int .i64 ((countByte (bytesOf (l.map fun (b : Nat) => (b : Int))) (Int.toNat 0).toUInt8 : Nat) : Int)) ∧ w = w' := by
  have HB := Lib.hid hb
  clear hb
  cases A with
  | none =>
    obtain rfl := Bs.nil_ HB.out rfl
    have hn : n = 0 := by have := Bs.cap HB.out; omega
    subst hn
    have hl0 : l = [] := List.eq_nil_of_length_eq_zero (Bs.len HB.out)
    subst hl0
    go_enter Tryz.func294, Tryz.ntmps294
    go_wp2_with fail
    rw [run_callFunc_extern Tryz.func299 (by kernel_rfl) (by kernel_rfl) (by kernel_rfl) (e := Extern.BytealgCount.count) (by kernel_rfl), Lib.run_countNil w 0 0 0]
    simp only [Result.andThen]
    rw [Oper.upon_value]
    go_wp2_with fail
    go_ret
    exact ⟨rfl, rfl⟩
  | some ad =>
    have hcells := HB.out.cells rfl
    have HC := Lib.hid (Lib.run_countAt (P := Tryz.prog) w ad n c (l.map fun (b : Nat) => (b : Int)) (by rw [List.length_map, HB.out.len]) hcells 0)
    clear hcells
    go_enter Tryz.func294, Tryz.ntmps294
    go_wp2_with fail
    rw [run_callFunc_extern Tryz.func299 (by kernel_rfl) (by kernel_rfl) (by kernel_rfl) (e := Extern.BytealgCount.count) (by kernel_rfl), HC.out]
    simp only [Result.andThen]
    rw [Oper.upon_value]
    go_wp2_with fail
    go_ret
    exact ⟨rfl, rfl⟩
theorem isZero_any (A : Option Addr) (n c : Nat) (l : List Nat) (w : World) (hb : By w A n c l) :
    Calls Tryz.prog 279 #[.slice A n c] w fun e w' => e = .returned (.bool (zeroB l)) ∧ Ext w w' := by
  have HX := Lib.hid ((Ext.refl w).alloc (.cells #[.int .u8 0] 5))
  have HC : Hid ((w.alloc (.cells #[.int .u8 0] 5)).cell? ⟨w.heap.size, 0, none⟩ = some (.int .u8 0)) := Lib.hid (cell_of_row _ w.heap.size 0 _ 5 (0, 0) (heap_alloc_new w _))
  have HN : Hid (l.length = n) := Lib.hid (Bs.len hb)
  have HF := Lib.hid (count_zero (Bs.rd hb).lt)
  have HB := Lib.hid hb
  clear hb
  go_enter Tryz.func279, Tryz.ntmps279
  go_wp2_with fail
  refine (count_by A l n c w.heap.size 0 1 _ (HB.out.ext HX.out) HC.out).mono ?_
  rintro e w' ⟨rfl, rfl⟩
  generalize countByte (bytesOf (l.map fun (b : Nat) => (b : Int))) (Int.toNat 0).toUInt8 = k at *
  go_wp2_with fail
  go_ret
  exact ⟨by rw [← HF.out, HN.out]; rfl, HX.out⟩
end
section
open Go Go.RowKit
def LaidT (w : World) : Prop := ∀ r : Nat, r < 6 → w.cell? ⟨2, r * 2, none⟩ = some (.int .i64 (plc r)) ∧ w.cell? ⟨2, r * 2 + 1, none⟩ = some (.int .i64 (wid r))
theorem LaidT.ext {a b : World} (h : LaidT a) (k : Ext a b) : LaidT b := by
  have hlt : 2 < a.heap.size := World.block_lt_of_cell? a _ (h 0 (by omega)).1
  exact fun r hr => ⟨(Below.cell k (p := ⟨_, _, none⟩) hlt).trans (h r hr).1, (Below.cell k (p := ⟨_, _, none⟩) hlt).trans (h r hr).2⟩
theorem within_any (a n b : Int) (w : World) :
    Calls Tryz.prog 273 #[.int .i64 a, .int .i64 n, .int .i64 b] w fun e w' => e = .returned (.int .i64 (max a (min n b))) ∧ w = w' := by
  have fin : ∀ x y : Int, x = y → Ending.returned (Value.int .i64 x) = .returned (.int .i64 y) := fun x y h => by rw [h]
  go_enter Tryz.func273, Tryz.ntmps273
  go_wp2
  all_goals (go_ret; refine ⟨fin _ _ ?_, rfl⟩; omega)
theorem find_case (r : Int) (k p q : Nat) (w : World) (hr : r = k) (hk : k < 6) (hp : p = plc r) (hq : q = wid r) (h0 : w.cell? ⟨2, k * 2, none⟩ = some (.int .i64 p)) (h1 : w.cell? ⟨2, k * 2 + 1, none⟩ = some (.int .i64 q)) :
    Calls Tryz.prog 212 #[.int .i64 r] w fun e w' => e = .returned (.agg #[.int .i64 p, .int .i64 q]) ∧ Ext w w' := by
  subst hr
  have HP := Lib.hid hp
  have HQ := Lib.hid hq
  have hb := World.block_lt_of_cell? w _ h0
  have g0 := (Below.cell ((Ext.refl w).alloc (.cells #[.int .i64 0, .int .i64 0] 289)) hb).trans h0
  have g1 := (Below.cell ((Ext.refl w).alloc (.cells #[.int .i64 0, .int .i64 0] 289)) (p := ⟨2, k * 2 + 1, none⟩) hb).trans h1
  clear hb h0 h1 hp hq
  go_enter Tryz.func212, Tryz.ntmps212
  go_wp2
  exact bodyPost_ret (v := .agg #[.int .i64 p, .int .i64 q]) (by simp [results, Tryz.results212, go_sem]) rfl ⟨rfl, (Ext.refl w).alloc _⟩
set_option maxHeartbeats 800000 in
theorem find_any (r : Int) (w : World) (hL : LaidT w) :
    Calls Tryz.prog 212 #[.int .i64 r] w fun e w' => e = .returned (.agg #[.int .i64 (plc r), .int .i64 (wid r)]) ∧ Ext w w' := by
  by_cases hn : r < 0
  · have H1 := Lib.hid (plc_out (r := r) (.inl (by omega)))
    have H2 := Lib.hid (wid_out (r := r) (.inl (by omega)))
    go_enter Tryz.func212, Tryz.ntmps212
    go_wp2
    exact bodyPost_ret (v := .agg #[.int .i64 0, .int .i64 0]) (by simp [results, Tryz.results212, go_sem]) rfl ⟨by rw [H1.out, H2.out]; rfl, (Ext.refl w).alloc _⟩
  by_cases hg : 6 ≤ r
  · have H1 := Lib.hid (plc_out (r := r) (.inr (by omega)))
    have H2 := Lib.hid (wid_out (r := r) (.inr (by omega)))
    go_enter Tryz.func212, Tryz.ntmps212
    go_wp2
    exact bodyPost_ret (v := .agg #[.int .i64 0, .int .i64 0]) (by simp [results, Tryz.results212, go_sem]) rfl ⟨by rw [H1.out, H2.out]; rfl, (Ext.refl w).alloc _⟩
  obtain ⟨r, rfl⟩ := Int.eq_ofNat_of_zero_le (show 0 ≤ r by omega)
  exact find_case r r _ _ w rfl (by omega) rfl rfl (hL r (by omega)).1 (hL r (by omega)).2
theorem area_field0 (x y : Value) (w : World) : (Instr.field 289 (.agg #[x, y]) 0).run Tryz.prog w = .ok x w := by kernel_rfl
theorem area_field1 (x y : Value) (w : World) : (Instr.field 289 (.agg #[x, y]) 1).run Tryz.prog w = .ok y w := by kernel_rfl
theorem places_any (r : Int) (w : World) (hL : LaidT w) :
    Calls Tryz.prog 134 #[.int .i64 r] w fun e w' => e = .returned (.int .i64 (plc r)) ∧ Ext w w' := by
  have HL := Lib.hid hL
  have hf := area_field0
  clear hL
  go_enter Tryz.func134, Tryz.ntmps134
  go_wp2_with fail
  refine (find_any r _ HL.out).mono ?_
  rintro e w1 ⟨rfl, hx⟩
  have HX := Lib.hid hx
  clear hx
  go_wp2_with fail
  go_ret
  exact ⟨rfl, HX.out⟩
end
section
open Go Go.RowKit
def NearS (w : World) (g : Nat) (a b c d e : Int) (w' : World) : Prop :=
  w'.cell? ⟨g, 0, none⟩ = some (.int .i64 a) ∧ w'.cell? ⟨g, 1, none⟩ = some (.int .i64 b) ∧ w'.cell? ⟨g, 2, none⟩ = some (.int .i64 c) ∧ w'.cell? ⟨g, 3, none⟩ = some (.int .i64 d) ∧ w'.cell? ⟨g, 4, none⟩ = some (.int .i64 e) ∧
    Hid (LaidT w' ∧ Ext w w' ∧ w.heap.size ≤ g ∧ 2 < g ∧ ∃ X : Array Value, X.size = 5 ∧ w'.heap[g + 1]? = some (.cells X 44 (0, 0)))
theorem NearS.ext {w w' w1 : World} {g : Nat} {a b c d e : Int} (h : NearS w g a b c d e w') (k : Ext w' w1) : NearS w g a b c d e w1 := by
  obtain ⟨h0, h1, h2, h3, h4, ⟨hL, hE, hg, hg2, X, hX, hh⟩⟩ := h
  have hlt : g < w'.heap.size := by have := World.block_lt_of_cell? w' _ h0; simpa using this
  exact ⟨(Below.cell k (p := ⟨g, 0, none⟩) hlt).trans h0, (Below.cell k (p := ⟨g, 1, none⟩) hlt).trans h1, (Below.cell k (p := ⟨g, 2, none⟩) hlt).trans h2, (Below.cell k (p := ⟨g, 3, none⟩) hlt).trans h3, (Below.cell k (p := ⟨g, 4, none⟩) hlt).trans h4,
    ⟨hL.ext k, hE.trans k, hg, hg2, X, hX, (k.block (g + 1) (Array.getElem?_eq_some_iff.1 hh).1).trans hh⟩⟩
theorem NearS.drew {w w' : World} {g : Nat} {a b c d e : Int} (h : NearS w g a b c d e w') : NearS w g a b c d e w'.drew := h.ext ((Ext.refl w').drew)
theorem NearS.laid {w w' : World} {g : Nat} {a b c d e : Int} (h : NearS w g a b c d e w') : LaidT w' := h.2.2.2.2.2.out.1
theorem NearS.row {w w' : World} {g : Nat} {a b c d e : Int} (h : NearS w g a b c d e w') : ∃ X : Array Value, X.size = 5 ∧ w'.heap[g + 1]? = some (.cells X 44 (0, 0)) := h.2.2.2.2.2.out.2.2.2.2
theorem NearS.kept {w w' : World} {g : Nat} {a b c d e : Int} (h : NearS w g a b c d e w') : Ext w w' := h.2.2.2.2.2.out.2.1
theorem NearS.free {w w' : World} {g : Nat} {a b c d e : Int} (h : NearS w g a b c d e w') (i : Nat) (hi : i < 5) : (∃ v, w'.cell? ⟨g + 1, i, none⟩ = some v) ∧ w'.frozen? ⟨g + 1, i, none⟩ = false := by
  obtain ⟨X, hX, hh⟩ := h.row
  refine ⟨⟨X[i], ?_⟩, ?_⟩
  · rw [cell_of_row w' (g + 1) i X _ _ hh, Array.getElem?_eq_getElem (by omega)]
  · exact frozen_of_row w' (g + 1) i X _ hh
theorem NearS.all {w w' : World} {g : Nat} {a b c d e : Int} (h : NearS w g a b c d e w') : (w'.cell? ⟨g, 0, none⟩ = some (.int .i64 a) ∧ w'.cell? ⟨g, 1, none⟩ = some (.int .i64 b) ∧ w'.cell? ⟨g, 2, none⟩ = some (.int .i64 c) ∧ w'.cell? ⟨g, 3, none⟩ = some (.int .i64 d) ∧ w'.cell? ⟨g, 4, none⟩ = some (.int .i64 e)) ∧
    ∃ x0 x1 x2 x3 x4, w'.cell? ⟨g + 1, 0, none⟩ = some x0 ∧ w'.cell? ⟨g + 1, 1, none⟩ = some x1 ∧ w'.cell? ⟨g + 1, 2, none⟩ = some x2 ∧ w'.cell? ⟨g + 1, 3, none⟩ = some x3 ∧ w'.cell? ⟨g + 1, 4, none⟩ = some x4 ∧
      w'.frozen? ⟨g + 1, 0, none⟩ = false ∧ w'.frozen? ⟨g + 1, 1, none⟩ = false ∧ w'.frozen? ⟨g + 1, 2, none⟩ = false ∧ w'.frozen? ⟨g + 1, 3, none⟩ = false ∧ w'.frozen? ⟨g + 1, 4, none⟩ = false := by
  obtain ⟨⟨x0, c0⟩, f0⟩ := h.free 0 (by omega)
  obtain ⟨⟨x1, c1⟩, f1⟩ := h.free 1 (by omega)
  obtain ⟨⟨x2, c2⟩, f2⟩ := h.free 2 (by omega)
  obtain ⟨⟨x3, c3⟩, f3⟩ := h.free 3 (by omega)
  obtain ⟨⟨x4, c4⟩, f4⟩ := h.free 4 (by omega)
  exact ⟨⟨h.1, h.2.1, h.2.2.1, h.2.2.2.1, h.2.2.2.2.1⟩, x0, x1, x2, x3, x4, c0, c1, c2, c3, c4, f0, f1, f2, f3, f4⟩
theorem near_start (w : World) (hL : LaidT w) (a b c d e : Int) (Y : Array Value) (hY : Y.size = 5) : NearS w w.heap.size a b c d e ((w.alloc (.cells #[.int .i64 a, .int .i64 b, .int .i64 c, .int .i64 d, .int .i64 e] 44)).alloc (.cells Y 44)) := by
  have hE := ((Ext.refl w).alloc (.cells #[.int .i64 a, .int .i64 b, .int .i64 c, .int .i64 d, .int .i64 e] 44))
  have hE2 := (Ext.refl (w.alloc (.cells #[.int .i64 a, .int .i64 b, .int .i64 c, .int .i64 d, .int .i64 e] 44))).alloc (.cells Y 44)
  have hc := fun i => (Below.cell hE2 (p := ⟨w.heap.size, i, none⟩) (by simp)).trans (cell_of_row _ w.heap.size i _ 44 (0, 0) (heap_alloc_new w _))
  have hlt : 2 < w.heap.size := World.block_lt_of_cell? w _ (hL 0 (by omega)).1
  exact ⟨hc 0, hc 1, hc 2, hc 3, hc 4, ⟨hL.ext (hE.trans hE2), hE.trans hE2, Nat.le_refl _, hlt, Y, hY, heap_alloc2_new w _ _⟩⟩
set_option maxHeartbeats 6400000 in
theorem nearest_any (a b c d e : Int) (w : World) (hL : LaidT w) :
    Calls Tryz.prog 236 #[.agg #[.int .i64 a, .int .i64 b, .int .i64 c, .int .i64 d, .int .i64 e]] w fun r w' => r = .returned (.agg #[.int .i64 (nrA a), .int .i64 (nrR b), .int .i64 (nrC b c), .int .i64 (nrD d), .int .i64 (nrE e)]) ∧ Ext w w' := by
  have HS := Lib.hid (near_start w hL a b c d e #[.int .i64 0, .int .i64 0, .int .i64 0, .int .i64 0, .int .i64 0] rfl)
  clear hL
  go_enter Tryz.func236, Tryz.ntmps236
  go_wp2_with fail
  refine (within_any _ _ _ _).mono ?_
  rintro e' w' ⟨rfl, rfl⟩
  go_wp2_with fail
  have hplc := plc_le (nrR b)
  have hsub : IntKind.i64.wrap ((plc (nrR b) : Int) - 1) = (plc (nrR b) : Int) - 1 := IntWalk.i64_in _ (by omega)
  clear hplc
  rw [show max 1 (min b 5) = nrR b from rfl]
  generalize ((w.alloc (.cells #[.int .i64 a, .int .i64 b, .int .i64 c, .int .i64 d, .int .i64 e] 44)).alloc (.cells #[.int .i64 0, .int .i64 0, .int .i64 0, .int .i64 0, .int .i64 0] 44)) = W at *
  have hS := HS.out.drew
  clear HS
  generalize w.heap.size = g at *
  have hS' := hS
  obtain ⟨i0, i1, i2, i3, i4, _⟩ := hS'
  go_region_held3 (fun w' => w'.cell? ⟨g, 0, none⟩ = some (.int .i64 a) ∧ w'.cell? ⟨g, 1, none⟩ = some (.int .i64 b) ∧ w'.cell? ⟨g, 2, none⟩ = some (.int .i64 c) ∧ w'.cell? ⟨g, 3, none⟩ = some (.int .i64 d) ∧ w'.cell? ⟨g, 4, none⟩ = some (.int .i64 e))
    (first | with_reducible exact ⟨i0, i1, i2, i3, i4⟩ | with_reducible exact ⟨j0, j1, j2, j3, j4⟩ | go_keep)
    (first
      | (go_at_call 273; ((with_reducible refine (within_any _ _ _ _).mono ?_); rintro e' w' ⟨rfl, rfl⟩))
      | (go_at_call 134; ((with_reducible refine (places_any _ _ hS.laid).mono ?_); rintro e' w' ⟨rfl, hx⟩; obtain ⟨⟨j0, j1, j2, j3, j4⟩, x0, x1, x2, x3, x4, c0, c1, c2, c3, c4, f0, f1, f2, f3, f4⟩ := NearS.all (NearS.ext hS hx))))
  have HE := Lib.hid (hS.kept.trans hx)
  have HG := Lib.hid hS.2.2.2.2.2.out.2.2.1
  clear hS i0 i1 i2 i3 i4 hx hsub j0 j1 j2 j3 j4
  go_wp2_with fail
  refine bodyPost_ret (v := .agg #[.int .i64 (nrA a), .int .i64 (nrR b), .int .i64 (nrC b c), .int .i64 (nrD d), .int .i64 (nrE e)]) ?_ rfl ⟨rfl, ?_⟩
  · simp [results, Tryz.results236, go_sem, c0, c1, c2, c3, c4]
    exact ⟨rfl, rfl, rfl, rfl⟩
  · have hg : w.heap.size ≤ g + 1 := Nat.le_succ_of_le HG.out
    exact ((((HE.out.setCell (p := ⟨g + 1, 0, none⟩) hg _).setCell (p := ⟨g + 1, 1, none⟩) hg _).setCell (p := ⟨g + 1, 2, none⟩) hg _).setCell (p := ⟨g + 1, 3, none⟩) hg _).setCell (p := ⟨g + 1, 4, none⟩) hg _
theorem tag_eql (a b c d e a' b' c' d' e' : Int) (w : World) : (binOp .eql 44 (.agg #[.int .i64 a, .int .i64 b, .int .i64 c, .int .i64 d, .int .i64 e]) (.agg #[.int .i64 a', .int .i64 b', .int .i64 c', .int .i64 d', .int .i64 e'])).run Tryz.prog w =
    .ok (.bool (a == a' && (b == b' && (c == c' && (d == d' && e == e'))))) w := by
  have hf : Tryz.prog.stoodInHeld 44 = false := by kernel_rfl
  have hu := Tryz.underlying44
  rw [run_eql_struct, run_equalIn_agg _ _ _ _ _ (by rw [Program.fieldsOf, hu]) hf, Program.fieldsOf, hu]
  simp [Op.eqFields, go_sem]
  by_cases h1 : a = a' <;> by_cases h2 : b = b' <;> by_cases h3 : c = c' <;> by_cases h4 : d = d' <;> by_cases h5 : e = e' <;> simp [h1, h2, h3, h4, h5]
end
section
open Go Go.RowKit
theorem may_eq (a b c d e : Int) : (a == nrA a && (b == nrR b && (c == nrC b c && (d == nrD d && e == nrE e)))) = mayB a b c d e := by
  rw [Bool.eq_iff_iff, ← near_iff]
  simp
theorem Ext.cell {a b : World} {p : Addr} {v : Value} (k : Ext a b) (h : a.cell? p = some v) : b.cell? p = some v := (Below.cell k (World.block_lt_of_cell? a _ h)).trans h
set_option maxHeartbeats 3200000 in
theorem may_any (a b c d e : Int) (w : World) (hL : LaidT w) :
    Calls Tryz.prog 166 #[.agg #[.int .i64 a, .int .i64 b, .int .i64 c, .int .i64 d, .int .i64 e]] w fun r w' => r = .returned (.bool (mayB a b c d e)) ∧ Ext w w' := by
  have hE := (Ext.refl w).alloc (.cells #[.int .i64 a, .int .i64 b, .int .i64 c, .int .i64 d, .int .i64 e] 44)
  have hL1 := hL.ext hE
  have hc := fun i => (cell_of_row _ w.heap.size i _ 44 (0, 0) (heap_alloc_new w (.cells #[.int .i64 a, .int .i64 b, .int .i64 c, .int .i64 d, .int .i64 e] 44)))
  have i0 : (w.alloc (.cells #[.int .i64 a, .int .i64 b, .int .i64 c, .int .i64 d, .int .i64 e] 44)).cell? ⟨w.heap.size, 0, none⟩ = some (.int .i64 a) := hc 0
  have i1 : (w.alloc (.cells #[.int .i64 a, .int .i64 b, .int .i64 c, .int .i64 d, .int .i64 e] 44)).cell? ⟨w.heap.size, 1, none⟩ = some (.int .i64 b) := hc 1
  have i2 : (w.alloc (.cells #[.int .i64 a, .int .i64 b, .int .i64 c, .int .i64 d, .int .i64 e] 44)).cell? ⟨w.heap.size, 2, none⟩ = some (.int .i64 c) := hc 2
  have i3 : (w.alloc (.cells #[.int .i64 a, .int .i64 b, .int .i64 c, .int .i64 d, .int .i64 e] 44)).cell? ⟨w.heap.size, 3, none⟩ = some (.int .i64 d) := hc 3
  have i4 : (w.alloc (.cells #[.int .i64 a, .int .i64 b, .int .i64 c, .int .i64 d, .int .i64 e] 44)).cell? ⟨w.heap.size, 4, none⟩ = some (.int .i64 e) := hc 4
  have HL := Lib.hid hL1
  have HE := Lib.hid hE
  have HM := Lib.hid (may_eq a b c d e)
  have hq := tag_eql a b c d e (nrA a) (nrR b) (nrC b c) (nrD d) (nrE e)
  have hg : Tryz.prog.eqGuardType Tryz.prog.depth 44 = false := by kernel_rfl
  clear hL hE hL1 hc
  go_enter Tryz.func166, Tryz.ntmps166
  go_wp2_with fail
  generalize (w.alloc (.cells #[.int .i64 a, .int .i64 b, .int .i64 c, .int .i64 d, .int .i64 e] 44)) = W at *
  generalize w.heap.size = g at *
  go_region_held3 (fun w' => w'.cell? ⟨g, 0, none⟩ = some (.int .i64 a) ∧ w'.cell? ⟨g, 1, none⟩ = some (.int .i64 b) ∧ w'.cell? ⟨g, 2, none⟩ = some (.int .i64 c) ∧ w'.cell? ⟨g, 3, none⟩ = some (.int .i64 d) ∧ w'.cell? ⟨g, 4, none⟩ = some (.int .i64 e))
    (first | with_reducible exact ⟨i0, i1, i2, i3, i4⟩ | exact ⟨Ext.cell hx i0, Ext.cell hx i1, Ext.cell hx i2, Ext.cell hx i3, Ext.cell hx i4⟩ | go_keep)
    (first
      | (go_at_call 236; ((with_reducible refine (nearest_any _ _ _ _ _ _ (HL.out.ext ((Ext.refl _).drew))).mono ?_); rintro r w' ⟨rfl, hx⟩)))
  rw [HM.out]
  have HE := Lib.hid (HE.out.trans (((Ext.refl W).drew).trans hx))
  clear hx hq hg i0 i1 i2 i3 i4
  go_wp2_with fail
  go_ret
  exact ⟨rfl, HE.out⟩
end
section
open Go Go.RowKit
theorem size_zeroCells_one (n : Nat) (z : Value) : (Builtin.zeroCells #[z] n).size = n := by
  simp [Builtin.zeroCells]
set_option maxHeartbeats 800000 in
theorem grow_nil (n : Nat) (w : World) (hn : n ≤ 140737488355328) :
    Calls Tryz.prog 257 #[.slice none 0 0, .int .i64 n] w fun e w' => ∃ v, e = .returned v ∧ w'.ownsRow w.heap.size 5 1 v 0 [] ∧ Below w.heap.size w w' := by
  obtain ⟨i0, hi, hz0, hz1, hz2⟩ := info_parts byte_info
  by_cases h0 : n = 0
  · subst h0
    go_enter Tryz.func257, Tryz.ntmps257
    go_wp2_with fail
    go_ret
    exact ⟨_, rfl, World.ownsRow_nil _ _ _ _, Below.refl _ _⟩
  · have hrun := fun ty => Lib.run_append_nil_zeros (P := Tryz.prog) w 45 3 ty 5 i0 (.int .u8 0) .i64 .i64 Tryz.underlying45 Tryz.underlying3 hi hz0 n (by omega) (by omega) (by omega) (by rw [hz2]; omega)
    have HR := Lib.hid hrun
    clear hrun
    have hcap := grownCap_le_maxLen w n 0 5 (by unfold maxLen; omega)
    have hge := grownCap_ge w n 0 5
    have hcs : (Builtin.zeroCells (Value.int .u8 0).cells n ++ Builtin.zeroCells (Value.int .u8 0).cells (grownCap w n 0 5 - n)).size = grownCap w n 0 5 * 1 := by
      have e : (Value.int IntKind.u8 0).cells = #[Value.int .u8 0] := rfl
      rw [e, Array.size_append, size_zeroCells_one, size_zeroCells_one]
      omega
    have HC := Lib.hid hcs
    clear hcs
    have hmx := hcap
    unfold maxLen at hmx
    generalize hgc : grownCap w n 0 5 = gc at *
    generalize hcells : (Builtin.zeroCells (Value.int .u8 0).cells n ++ Builtin.zeroCells (Value.int .u8 0).cells (gc - n)) = cells at *
    have HM := Lib.hid hcap
    clear hgc hcells hcap
    go_enter Tryz.func257, Tryz.ntmps257
    go_wp2_with (at_builtin; refine Lib.wpList_append_run _ rfl _ _ _ _ rfl _ _ rfl rfl _ _ (HR.out _) ?_)
    go_ret
    exact ⟨_, rfl, (World.ownsRow_made w cells gc (Nat.le_refl _) HM.out HC.out), ((Below.refl _ _).alloc (Nat.le_refl _) _).drew⟩
def cat (ps : List (Value × List Nat)) : List Nat := ps.flatMap (·.2)
theorem cat_step {ps : List (Value × List Nat)} {k : Nat} {p : Value × List Nat} (h : ps[k]? = some p) : cat (ps.take (k + 1)) = cat (ps.take k) ++ p.2 := by
  unfold cat
  rw [List.take_add_one, h, Option.toList_some, List.flatMap_append]
  simp
theorem cat_take_le (ps : List (Value × List Nat)) (k : Nat) : (cat (ps.take k)).length ≤ (cat ps).length := by
  have e : cat ps = cat (ps.take k) ++ cat (ps.drop k) := by
    unfold cat
    rw [← List.flatMap_append, List.take_append_drop]
  rw [e, List.length_append]
  omega
structure Parts (w : World) (B : Nat) (G : Option Addr) (m : Nat) (ps : List (Value × List Nat)) : Prop where
  len : ps.length = m
  at_ : 0 < m → ∃ g o, G = some ⟨g, o, none⟩ ∧ g < B ∧ ∀ j p, ps[j]? = some p → w.cell? ⟨g, o + j, none⟩ = some p.1
  each : ∀ p ∈ ps, ∃ A n c, p.1 = .slice A n c ∧ Bs w B A n c p.2
theorem Parts.below {w w' : World} {B : Nat} {G : Option Addr} {m : Nat} {ps : List (Value × List Nat)} (h : Parts w B G m ps) (hb : Below B w w') : Parts w' B G m ps := by
  refine ⟨h.len, fun hm => ?_, fun p hp => ?_⟩
  · obtain ⟨g, o, e, hg, hc⟩ := h.at_ hm
    exact ⟨g, o, e, hg, fun j p hp => (hb.cell (p := ⟨g, o + j, none⟩) hg).trans (hc j p hp)⟩
  · obtain ⟨A, n, c, e, hbs⟩ := h.each p hp
    exact ⟨A, n, c, e, hbs.below hb⟩
theorem Parts.get {w : World} {B : Nat} {G : Option Addr} {m : Nat} {ps : List (Value × List Nat)} (h : Parts w B G m ps) {k : Nat} (hk : k < m) :
    ∃ g o A n c l, G = some ⟨g, o, none⟩ ∧ g < B ∧ ps[k]? = some (.slice A n c, l) ∧ w.cell? ⟨g, o + k, none⟩ = some (.slice A n c) ∧ Bs w B A n c l := by
  obtain ⟨g, o, e, hg, hc⟩ := h.at_ (by omega)
  have hk' : k < ps.length := by rw [h.len]; exact hk
  obtain ⟨A, n, c, e1, hbs⟩ := h.each ps[k] (List.getElem_mem hk')
  have hp : ps[k]? = some (.slice A n c, ps[k].2) := by rw [List.getElem?_eq_getElem hk', ← e1]
  exact ⟨g, o, A, n, c, ps[k].2, e, hg, hp, hc k _ hp, hbs⟩
theorem cat_len_step {ps : List (Value × List Nat)} {k n : Nat} {v : Value} {l : List Nat} (h : ps[k]? = some (v, l)) (hl : l.length = n) : (cat (ps.take (k + 1))).length = (cat (ps.take k)).length + n := by
  rw [cat_step h, List.length_append, hl]
theorem concat_step {w wr w1 : World} {ps : List (Value × List Nat)} {k n : Nat} {v v1 u : Value} {l : List Nat} (hp : ps[k]? = some (u, l)) (hl : l.length = n)
    (hown : wr.ownsRow w.heap.size 5 1 v (cat (ps.take k)).length (vb (cat (ps.take k)))) (hbel : Below w.heap.size w wr)
    (hown1 : w1.ownsRow w.heap.size 5 1 v1 ((cat (ps.take k)).length + n) (vb (cat (ps.take k)) ++ vb l)) (hg : wr.grownBy w1 v.ownBlock) :
    w1.ownsRow w.heap.size 5 1 v1 (cat (ps.take (k + 1))).length (vb (cat (ps.take (k + 1)))) ∧ Below w.heap.size w w1 := by
  refine ⟨?_, ?_⟩
  · rw [cat_len_step hp hl, cat_step hp, vb_append]
    exact hown1
  · refine hbel.grown hg hbel.size ?_
    intro g hg'
    exact (hown.lt g hg').1
set_option maxHeartbeats 2000000 in
theorem concat_any (G : Option Addr) (m c : Nat) (ps : List (Value × List Nat)) (w : World) (hp : Parts w w.heap.size G m ps) (hm : m ≤ 9000000000000000000) (ht : (cat ps).length ≤ 140737488355328) :
    Calls Tryz.prog 216 #[.slice G m c] w fun e w' => ∃ A' c', e = .returned (.slice A' (cat ps).length c') ∧ w'.ownsRow w.heap.size 5 1 (.slice A' (cat ps).length c') (cat ps).length (vb (cat ps)) ∧ Below w.heap.size w w' := by
  obtain ⟨i0, hi, hz0, hz1, hz2⟩ := info_parts byte_info
  have HP := Lib.hid hp
  clear hp
  go_enter Tryz.func216, Tryz.ntmps216
  go_wp2_with fail
  go_loop [3, 11] (fun s i => ∃ k : Nat, k ≤ m ∧ i = .int .i64 k ∧ s = .int .i64 (((cat (ps.take k)).length : Nat) : Int)) (fun _ i => m - (intOf i).toNat)
  case atStart => exact ⟨0, Nat.zero_le _, rfl, rfl⟩
  case round =>
    obtain ⟨k, hk, rfl, rfl⟩ := hrel
    by_cases hlt : k < m
    · obtain ⟨g, o, A, n, c1, l, hG, _, hpk, hcell, hbs⟩ := HP.out.get hlt
      subst hG
      have HS := Lib.hid (cat_len_step hpk hbs.len)
      have hle : (cat (ps.take (k + 1))).length ≤ (cat ps).length := cat_take_le ps (k + 1)
      rw [HS.out] at hle
      clear hpk hbs
      generalize hsn : (cat (ps.take k)).length = sn at *
      clear hsn
      go_wp2_with fail
      go_round
      case rel => exact ⟨k + 1, by omega, by go_num, by rw [HS.out]; go_num⟩
      case measure => simp [intOf]; omega
    · have HK : Hid (k = m) := Lib.hid (by omega)
      have e0 : cat (ps.take k) = cat ps := by rw [HK.out, List.take_of_length_le (by rw [HP.out.len]; exact Nat.le_refl _)]
      rw [e0]
      clear e0
      go_wp2_with fail
      refine (grow_nil (cat ps).length _ ht).mono ?_
      rintro e w1 ⟨v1, rfl, hown1, hbel1⟩
      have HO1 := Lib.hid hown1
      have HB1 := Lib.hid hbel1
      clear hown1 hbel1 HK
      go_wp2_with fail
      go_loopw [6, 27] (fun v i wr => ∃ k : Nat, k ≤ m ∧ i = .int .i64 k ∧ Hid (wr.ownsRow w.heap.size 5 1 v (cat (ps.take k)).length (vb (cat (ps.take k)))) ∧ Hid (Below w.heap.size w wr)) (fun _ i _ => m - (intOf i).toNat)
      case atStart => exact ⟨0, Nat.zero_le _, rfl, HO1, HB1⟩
      case round =>
        obtain ⟨k, hk, rfl, HO, HB⟩ := hrel
        by_cases hlt : k < m
        · obtain ⟨g, o, A, n, c1, l, hG, _, hpk, hcell, hbs⟩ := (HP.out.below HB.out).get hlt
          subst hG
          have HBS := Lib.hid hbs
          have HPK := Lib.hid hpk
          have hle : (cat (ps.take (k + 1))).length ≤ (cat ps).length := cat_take_le ps (k + 1)
          rw [cat_len_step hpk hbs.len] at hle
          have hsz := HB.out.size
          clear hpk hbs
          rcases A with _ | ad
          · have hc0 : c1 = 0 := HBS.out.nil_ rfl
            subst hc0
            have hn0 : n = 0 := by have := HBS.out.cap; omega
            subst hn0
            have hl0 : l = [] := List.eq_nil_of_length_eq_zero HBS.out.len
            subst hl0
            go_wp2_with (at_builtin; refine wpList_append_own_none rfl _ _ 45 rfl w.heap.size 5 i0 1 Tryz.underlying45 hi _ _ _ rfl HO.out rfl ?_)
            go_roundw
            case rel => exact ⟨k + 1, by omega, by go_num, Lib.hid (by have h := HO.out; rw [cat_step HPK.out]; simpa using h), HB⟩
            case measure => simp [intOf]; omega
          · go_wp2_with (at_builtin; refine wpList_append_own _ rfl _ _ 45 rfl w.heap.size 5 i0 (.int .u8 0) 1 1 Tryz.underlying45 hi hz0 hz1 hz2 rfl (by decide) _ _ _ rfl HO.out ad n c1 (vb l) rfl ?c1 ?c2 ?c3 ?c4 ?c5 ?c6 ?_)
            case c1 => rw [vb_length, HBS.out.len]; omega
            case c2 =>
              intro j u hj
              rw [vb_get] at hj
              obtain ⟨x, hx, rfl⟩ := Option.map_eq_some_iff.1 hj
              have hjl : j < l.length := (List.getElem?_eq_some_iff.1 hx).1
              obtain ⟨g', o', y, hA, _, hy, _, hc⟩ := HBS.out.rd.at_ hjl
              injection hA with hA
              subst hA
              rw [hx] at hy
              injection hy with hy
              subst hy
              rw [Addr.add_lit, hc]
            case c3 => exact vb_one l
            case c4 => unfold maxLen; omega
            case c5 => omega
            case c6 => exact hsz
            intro v2 w2 hown hg _
            have R := concat_step HPK.out HBS.out.len HO.out HB.out hown hg
            have HO2 := Lib.hid R.1
            have HB2 := Lib.hid R.2
            clear hown hg R
            go_wp2_with fail
            go_roundw
            case rel => exact ⟨k + 1, by omega, by go_num, HO2, HB2⟩
            case measure => simp [intOf]; omega
        · have HK : Hid (k = m) := Lib.hid (by omega)
          have e0 : cat (ps.take k) = cat ps := by rw [HK.out, List.take_of_length_le (by rw [HP.out.len]; exact Nat.le_refl _)]
          have h1 := HO.out
          rw [e0] at h1
          obtain ⟨A', c', hv, _, _⟩ := own_form h1
          subst hv
          have HO3 := Lib.hid h1
          clear h1 e0
          go_wp2_with fail
          go_ret
          exact ⟨A', c', rfl, HO3.out, HB.out⟩
theorem join_any (G : Option Addr) (m c : Nat) (ps : List (Value × List Nat)) (w : World) (hp : Parts w w.heap.size G m ps) (hm : m ≤ 9000000000000000000) (ht : (cat ps).length ≤ 140737488355328) :
    Calls Tryz.prog 139 #[.slice G m c] w fun e w' => ∃ A' c', e = .returned (.slice A' (cat ps).length c') ∧ w'.ownsRow w.heap.size 5 1 (.slice A' (cat ps).length c') (cat ps).length (vb (cat ps)) ∧ Below w.heap.size w w' := by
  have HP := Lib.hid hp
  clear hp
  go_enter Tryz.func139, Tryz.ntmps139
  go_wp2_with fail
  refine (concat_any _ _ _ ps _ HP.out hm ht).mono ?_
  rintro e w1 ⟨A', c', rfl, hown, hbel⟩
  have HO := Lib.hid hown
  have HB := Lib.hid hbel
  clear hown hbel
  go_wp2_with fail
  go_ret
  exact ⟨A', c', rfl, HO.out, HB.out⟩
end
section
open Go Go.RowKit
theorem parts_lit {w : World} {ps : List (Value × List Nat)} {m : Nat} {cs : Array Value} {t : TypeId} (hm : ps.length = m) (hcs : cs = (ps.map (·.1)).toArray) (he : ∀ p ∈ ps, ∃ A n c, p.1 = .slice A n c ∧ By w A n c p.2) :
    Parts (w.alloc (.cells cs t)) (w.alloc (.cells cs t)).heap.size (some ⟨w.heap.size, 0, none⟩) m ps := by
  subst hcs
  refine ⟨hm, fun _ => ⟨_, 0, rfl, by simp, fun j p hp => ?_⟩, fun p hp => ?_⟩
  · rw [Nat.zero_add, cell_of_row _ w.heap.size j _ t (0, 0) (heap_alloc_new w _), List.getElem?_toArray, List.getElem?_map, hp]
    rfl
  · obtain ⟨A, n, c, e, h⟩ := he p hp
    exact ⟨A, n, c, e, h.ext ((Ext.refl w).alloc _)⟩
theorem join_by (ps : List (Value × List Nat)) (m N : Nat) (w : World) (cs : Array Value) (hm : ps.length = m) (hcs : cs = (ps.map (·.1)).toArray) (he : ∀ p ∈ ps, ∃ A n c, p.1 = .slice A n c ∧ By w A n c p.2)
    (hN : (cat ps).length = N) (hb : ∀ b ∈ cat ps, b < 256) (hm9 : m ≤ 1000) (hN9 : N ≤ 140737488355328) :
    Calls Tryz.prog 139 #[.slice (some ⟨w.heap.size, 0, none⟩) m m] (w.alloc (.cells cs 45)) fun e w' => ∃ A' c', e = .returned (.slice A' N c') ∧ By w' A' N c' (cat ps) ∧ Ext w w' := by
  refine (join_any _ m m ps _ (parts_lit hm hcs he) (by omega) (by omega)).mono ?_
  rintro e w' ⟨A', c', rfl, hown, hx⟩
  rw [hN] at hown
  exact ⟨A', c', by rw [hN], Bs.of_own hown hb, ((Ext.refl w).alloc _).trans hx⟩
theorem join2_by {A1 A2 : Option Addr} {n1 n2 c1 c2 : Nat} {l1 l2 : List Nat} (w : World) (h1 : By w A1 n1 c1 l1) (h2 : By w A2 n2 c2 l2) (hN : n1 + n2 ≤ 140737488355328) :
    Calls Tryz.prog 139 #[.slice (some ⟨w.heap.size, 0, none⟩) 2 2] (w.alloc (.cells #[.slice A1 n1 c1, .slice A2 n2 c2] 45)) fun e w' => ∃ A' c', e = .returned (.slice A' (n1 + n2) c') ∧ By w' A' (n1 + n2) c' (l1 ++ l2) ∧ Ext w w' := by
  have hcat : cat [(.slice A1 n1 c1, l1), (.slice A2 n2 c2, l2)] = l1 ++ l2 := by simp [cat]
  rw [← hcat]
  refine join_by _ 2 _ w _ rfl rfl ?_ (by rw [hcat, List.length_append, h1.len, h2.len]) ?_ (by omega) hN
  · intro p hp
    simp only [List.mem_cons, List.not_mem_nil, or_false] at hp
    rcases hp with rfl | rfl
    · exact ⟨_, _, _, rfl, h1⟩
    · exact ⟨_, _, _, rfl, h2⟩
  · rw [hcat]
    intro b hb
    simp only [List.mem_append] at hb
    rcases hb with h | h
    · exact h1.rd.lt b h
    · exact h2.rd.lt b h
theorem join3_by {A1 A2 A3 : Option Addr} {n1 n2 n3 c1 c2 c3 : Nat} {l1 l2 l3 : List Nat} (w : World) (h1 : By w A1 n1 c1 l1) (h2 : By w A2 n2 c2 l2) (h3 : By w A3 n3 c3 l3) (hN : n1 + n2 + n3 ≤ 140737488355328) :
    Calls Tryz.prog 139 #[.slice (some ⟨w.heap.size, 0, none⟩) 3 3] (w.alloc (.cells #[.slice A1 n1 c1, .slice A2 n2 c2, .slice A3 n3 c3] 45)) fun e w' => ∃ A' c', e = .returned (.slice A' (n1 + n2 + n3) c') ∧ By w' A' (n1 + n2 + n3) c' (l1 ++ l2 ++ l3) ∧ Ext w w' := by
  have hcat : cat [(.slice A1 n1 c1, l1), (.slice A2 n2 c2, l2), (.slice A3 n3 c3, l3)] = l1 ++ l2 ++ l3 := by simp [cat]
  rw [← hcat]
  refine join_by _ 3 _ w _ rfl rfl ?_ (by rw [hcat, List.length_append, List.length_append, h1.len, h2.len, h3.len]) ?_ (by omega) hN
  · intro p hp
    simp only [List.mem_cons, List.not_mem_nil, or_false] at hp
    rcases hp with rfl | rfl | rfl
    · exact ⟨_, _, _, rfl, h1⟩
    · exact ⟨_, _, _, rfl, h2⟩
    · exact ⟨_, _, _, rfl, h3⟩
  · rw [hcat]
    intro b hb
    simp only [List.mem_append] at hb
    rcases hb with (h | h) | h
    · exact h1.rd.lt b h
    · exact h2.rd.lt b h
    · exact h3.rd.lt b h
end
section
open Go Go.RowKit
def Laid (w : World) : Prop :=
  w.cell? ⟨4, 0, none⟩ = some (.int .i64 0) ∧ w.cell? ⟨4, 1, none⟩ = some (.int .i64 256) ∧ w.cell? ⟨4, 2, none⟩ = some (.int .i64 65536) ∧ w.cell? ⟨4, 3, none⟩ = some (.int .i64 0) ∧
  w.cell? ⟨4, 4, none⟩ = some (.int .i64 4294967296) ∧ w.cell? ⟨4, 5, none⟩ = some (.int .i64 0) ∧ w.cell? ⟨4, 6, none⟩ = some (.int .i64 281474976710656)
theorem bound_any (x : Int) (w : World) (hL : Laid w) :
    Calls Tryz.prog 269 #[.int .i64 x] w fun e w' => e = .returned (.int .i64 (bnd x)) ∧ w = w' := by
  obtain ⟨h0, h1, h2, h3, h4, h5, h6⟩ := hL
  by_cases hn : x < 0
  · have hb : bnd x = 0 := by unfold bnd; omega
    have HB := Lib.hid hb
    clear hb
    go_enter Tryz.func269, Tryz.ntmps269
    go_wp2_with fail
    go_ret
    exact ⟨by rw [HB.out]; rfl, rfl⟩
  · by_cases hg : 7 ≤ x
    · have hb : bnd x = 0 := by unfold bnd; omega
      have HB := Lib.hid hb
      clear hb
      go_enter Tryz.func269, Tryz.ntmps269
      go_wp2_with fail
      go_ret
      exact ⟨by rw [HB.out]; rfl, rfl⟩
    · have hx : x = 0 ∨ x = 1 ∨ x = 2 ∨ x = 3 ∨ x = 4 ∨ x = 5 ∨ x = 6 := by omega
      clear hn hg
      rcases hx with rfl | rfl | rfl | rfl | rfl | rfl | rfl
      all_goals
        go_enter Tryz.func269, Tryz.ntmps269
        go_wp2_with fail
        go_ret
        exact ⟨rfl, rfl⟩
theorem fits_any (x n : Int) (w : World) (hL : Laid w) :
    Calls Tryz.prog 223 #[.int .i64 x, .int .i64 n] w fun e w' => e = .returned (.bool (fitsB x n)) ∧ w = w' := by
  by_cases hn : 0 ≤ n
  · have H := Lib.hid hL
    clear hL
    go_enter Tryz.func223, Tryz.ntmps223
    go_wp2_with (go_at_call 269; refine (bound_any _ _ H.out).mono ?_; rintro e w' ⟨rfl, rfl⟩)
    go_ret
    exact ⟨by simp [fitsB, hn], rfl⟩
  · have H := Lib.hid hL
    clear hL
    have HF := Lib.hid (show fitsB x n = false by simp only [fitsB, hn, decide_false, Bool.false_and])
    go_enter Tryz.func223, Tryz.ntmps223
    go_wp2_with (go_at_call 269; refine (bound_any _ _ H.out).mono ?_; rintro e w' ⟨rfl, rfl⟩)
    go_ret
    exact ⟨by rw [HF.out]; rfl, rfl⟩
end
end Go.Proofs.YtmbmpabjclkhlaaGreatDoor
