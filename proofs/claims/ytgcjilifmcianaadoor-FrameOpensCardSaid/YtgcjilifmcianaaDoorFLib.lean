/-
  The contracts of the library's Clone, Equal, Count at bytes, and of isZero, in the words 'By' and 'Ext'.
-/
import Derived.Test.YtgcjilifmcianaaDoorFSmall
namespace Go.Proofs.YtgcjilifmcianaaDoor
open Go Go.RowKit Go.Lib

/-- A slice that reads as bytes, cell by cell, whatever its address. -/
theorem By.cells {w : World} {A : Option Addr} {n c : Nat} {l : List Nat} (h : By w A n c l) {ad : Addr} (hA : A = some ad) : ∀ i, i < n → w.cell? (ad.add i) = some (.int .u8 ((l.map fun (b : Nat) => (b : Int)).getD i 0)) := by
  intro i hi
  obtain ⟨g, o, x, hA2, _, hx, _, hc⟩ := h.rd.at_ (k := i) (by rw [h.len]; exact hi)
  rw [hA] at hA2
  injection hA2 with hA2
  subst hA2
  rw [Addr.add_lit, hc]
  have e : (l.map fun (b : Nat) => (b : Int)).getD i 0 = (x : Int) := by
    rw [List.getD_eq_getElem?_getD, List.getElem?_map, hx]
    rfl
  rw [e]
theorem bytesOf_inj {l l' : List Nat} (hl : ∀ b ∈ l, b < 256) (hl' : ∀ b ∈ l', b < 256) (h : bytesOf (l.map fun (b : Nat) => (b : Int)) = bytesOf (l'.map fun (b : Nat) => (b : Int))) : l = l' := by
  unfold bytesOf at h
  rw [List.map_map, List.map_map] at h
  have hlen : l.length = l'.length := by
    have := congrArg List.length h
    simpa using this
  refine List.ext_getElem hlen fun i h1 h2 => ?_
  have e := congrArg (fun z => z[i]?) h
  simp only [List.getElem?_map, List.getElem?_eq_getElem h1, List.getElem?_eq_getElem h2, Option.map_some, Option.some.injEq, Function.comp, Int.toNat_natCast] at e
  have b1 := hl _ (List.getElem_mem h1)
  have b2 := hl' _ (List.getElem_mem h2)
  have e2 := congrArg UInt8.toNat e
  simp only [UInt8.toNat_ofNat'] at e2
  omega
theorem count_zero {l : List Nat} (hl : ∀ b ∈ l, b < 256) : (((countByte (bytesOf (l.map fun (b : Nat) => (b : Int))) (Int.toNat 0).toUInt8 : Nat) : Int) == (l.length : Int)) = zeroB l := by
  have e : countByte (bytesOf (l.map fun (b : Nat) => (b : Int))) (Int.toNat 0).toUInt8 = l.countP (fun x => x == 0) := by
    unfold countByte bytesOf
    rw [List.count, List.map_map, List.countP_map]
    refine List.countP_congr fun x hx => ?_
    have hb := hl x hx
    simp only [Function.comp, Int.toNat_natCast, beq_iff_eq]
    constructor
    · intro h
      have := congrArg UInt8.toNat h
      simp at this
      omega
    · rintro rfl
      rfl
  rw [e]
  by_cases h : zeroB l = true
  · have : l.countP (fun x => x == 0) = l.length := by
      rw [List.countP_eq_length]
      exact fun a ha => List.all_eq_true.1 h a ha
    rw [this, h]
    simp
  · have h' : zeroB l = false := by simpa using h
    rw [h']
    have : l.countP (fun x => x == 0) ≠ l.length := by
      rw [Ne, List.countP_eq_length]
      intro hh
      exact h (List.all_eq_true.2 hh)
    simp
    omega

theorem conv_by {w : World} {A : Option Addr} {n c : Nat} {l : List Nat} (h : By w A n c l) : (convert 24 9 (.slice A n c)).run Tryd.prog w = .ok (.string (strOfNums (l.map fun (b : Nat) => (b : Int)))) w := by
  by_cases hn : n = 0
  · subst hn
    have hl0 : l = [] := List.eq_nil_of_length_eq_zero h.len
    subst hl0
    exact run_convert_bytes_zero w 24 5 Tryd.underlying24 Tryd.underlying5 A c _ Tryd.underlying9
  · obtain ⟨g, o, x, hA, _⟩ := h.rd.at_ (k := 0) (by rw [h.len]; omega)
    subst hA
    exact run_convert_bytes_arg (P := Tryd.prog) w 24 5 Tryd.underlying24 Tryd.underlying5 g o n c (l.map fun (b : Nat) => (b : Int)) (by rw [List.length_map, h.len]) (fun i hi => by have := h.cells rfl i hi; rwa [Addr.add_lit] at this) _ Tryd.underlying9

theorem equal_by (A A' : Option Addr) (l l' : List Nat) (n n' c c' : Nat) (w : World) (hb : By w A n c l) (hb' : By w A' n' c' l') :
    Calls Tryd.prog 34 #[.slice A n c, .slice A' n' c'] w fun e w' => e = .returned (.bool (decide (l = l'))) ∧ w = w' := by
  have h1 := conv_by hb
  have h2 := conv_by hb'
  have HF : Hid (decide (l = l') = ((strOfNums (l.map fun (b : Nat) => (b : Int))).toList == (strOfNums (l'.map fun (b : Nat) => (b : Int))).toList)) := by
    refine Lib.hid ?_
    rw [strOfNums_toList, strOfNums_toList]
    by_cases h : l = l'
    · subst h; simp
    · rw [decide_eq_false h]
      symm
      rw [beq_eq_false_iff_ne]
      exact fun hh => h (bytesOf_inj hb.rd.lt hb'.rd.lt hh)
  clear hb hb'
  go_enter Tryd.func34, Tryd.ntmps34
  go_wp2_with fail
  go_ret
  exact ⟨by rw [HF.out]; rfl, rfl⟩

theorem own_made (w : World) : (w.alloc (.cells #[] 5)).ownsRow w.heap.size 5 1 (.slice (some ⟨w.heap.size, 0, none⟩) 0 0) 0 (vb []) := World.ownsRow_made w #[] 0 (Nat.le_refl _) (Nat.zero_le _) rfl

theorem clone_by (A : Option Addr) (l : List Nat) (n c : Nat) (w : World) (hb : By w A n c l) (hm : n ≤ 140737488355328) :
    Calls Tryd.prog 33 #[.slice A n c] w fun e w' => ∃ A' c', e = .returned (.slice A' n c') ∧ By w' A' n c' l ∧ Ext w w' ∧ w'.ownsRow w.heap.size 5 1 (.slice A' n c') n (vb l) := by
  obtain ⟨i0, hi, hz0, hz1, hz2⟩ := info_parts byte_info
  have q22 : ∀ (w : World) (a : Option Addr) (n c n' c' : Nat), (binOp .eql 24 (.slice a n c) (.slice none n' c')).run Tryd.prog w = .ok (.bool a.isNone) w := fun w a n c n' c' => Lib.run_eql_slice_nil w _ _ a n c n' c' Tryd.underlying24
  have HB := Lib.hid hb
  cases A with
  | none =>
    obtain rfl := Bs.nil_ hb rfl
    have hn : n = 0 := by have := Bs.cap hb; omega
    subst hn
    have hl0 : l = [] := List.eq_nil_of_length_eq_zero (Bs.len hb)
    subst hl0
    clear hb
    go_enter Tryd.func33, Tryd.ntmps33
    go_wp2_with fail
    go_ret
    exact ⟨none, 0, rfl, By.nil_ _, Ext.refl _, World.ownsRow_nil _ _ _ _⟩
  | some ad =>
    have HX := Lib.hid ((Ext.refl w).alloc (.cells #[] 5))
    have HO := Lib.hid (own_made w)
    clear hb
    go_enter Tryd.func33, Tryd.ntmps33
    go_wp2_with (at_builtin; refine wpList_append_by rfl _ _ 24 rfl w.heap.size 5 i0 Tryd.underlying24 hi hz0 hz1 hz2 _ 0 (vb []) rfl HO.out (some ad) n c l rfl (HB.out.ext HX.out) (by omega) (Ext.size HX.out) ?_)
    intro v2 w2 hown hg
    obtain ⟨hx, A2, c2, rfl, hb2, ho2⟩ := app_step (l1 := []) HX.out HO.out hg hown (by simp) HB.out.rd.lt
    have HX2 := Lib.hid hx
    have HB2 := Lib.hid hb2
    have HO2 := Lib.hid ho2
    clear hx hb2 ho2 hown hg
    go_wp2_with fail
    go_ret
    exact ⟨A2, c2, rfl, HB2.out, HX2.out, HO2.out⟩

set_option maxRecDepth 1000000 in
theorem count_by (A : Option Addr) (l : List Nat) (n c g o d : Nat) (w : World) (hb : By w A n c l) (hc : w.cell? ⟨g, o, none⟩ = some (.int .u8 0)) :
    Calls Tryd.prog 44 #[.slice A n c, .slice (some ⟨g, o, none⟩) 1 d] w fun e w' => e = .returned (.int .i64 ((countByte (bytesOf (l.map fun (b : Nat) => (b : Int))) (Int.toNat 0).toUInt8 : Nat) : Int)) ∧ w = w' := by
  have HB := Lib.hid hb
  clear hb
  cases A with
  | none =>
    obtain rfl := Bs.nil_ HB.out rfl
    have hn : n = 0 := by have := Bs.cap HB.out; omega
    subst hn
    have hl0 : l = [] := List.eq_nil_of_length_eq_zero (Bs.len HB.out)
    subst hl0
    go_enter Tryd.func44, Tryd.ntmps44
    go_wp2_with fail
    rw [run_callFunc_extern Tryd.func57 (by kernel_rfl) (by kernel_rfl) (by kernel_rfl) (e := Extern.BytealgCount.count) (by kernel_rfl), Lib.run_countNil w 0 0 0]
    simp only [Result.andThen]
    rw [Oper.upon_value]
    go_wp2_with fail
    go_ret
    exact ⟨rfl, rfl⟩
  | some ad =>
    have hcells := HB.out.cells rfl
    have HC := Lib.hid (Lib.run_countAt (P := Tryd.prog) w ad n c (l.map fun (b : Nat) => (b : Int)) (by rw [List.length_map, HB.out.len]) hcells 0)
    clear hcells
    go_enter Tryd.func44, Tryd.ntmps44
    go_wp2_with fail
    rw [run_callFunc_extern Tryd.func57 (by kernel_rfl) (by kernel_rfl) (by kernel_rfl) (e := Extern.BytealgCount.count) (by kernel_rfl), HC.out]
    simp only [Result.andThen]
    rw [Oper.upon_value]
    go_wp2_with fail
    go_ret
    exact ⟨rfl, rfl⟩

theorem isZero_any (A : Option Addr) (n c : Nat) (l : List Nat) (w : World) (hb : By w A n c l) :
    Calls Tryd.prog 31 #[.slice A n c] w fun e w' => e = .returned (.bool (zeroB l)) ∧ Ext w w' := by
  have HX := Lib.hid ((Ext.refl w).alloc (.cells #[.int .u8 0] 5))
  have HC : Hid ((w.alloc (.cells #[.int .u8 0] 5)).cell? ⟨w.heap.size, 0, none⟩ = some (.int .u8 0)) := Lib.hid (cell_of_row _ w.heap.size 0 _ 5 (0, 0) (heap_alloc_new w _))
  have HN : Hid (l.length = n) := Lib.hid (Bs.len hb)
  have HF := Lib.hid (count_zero (Bs.rd hb).lt)
  have HB := Lib.hid hb
  clear hb
  go_enter Tryd.func31, Tryd.ntmps31
  go_wp2_with fail
  refine (count_by A l n c w.heap.size 0 1 _ (HB.out.ext HX.out) HC.out).mono ?_
  rintro e w' ⟨rfl, rfl⟩
  generalize countByte (bytesOf (l.map fun (b : Nat) => (b : Int))) (Int.toNat 0).toUInt8 = k at *
  go_wp2_with fail
  go_ret
  exact ⟨by rw [← HF.out, HN.out]; rfl, HX.out⟩
end Go.Proofs.YtgcjilifmcianaaDoor
