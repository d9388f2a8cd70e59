/-
  The contracts of the document's Bytes and Print of entries.
-/
import Derived.Test.YtoapjgkfggggmaaDoorEPrint
import Derived.Test.YtoapjgkfggggmaaDoorERMay
import Derived.Test.YtoapjgkfggggmaaDoorRText
import Derived.Deep.DeepCutAuto
namespace Go.Proofs.YtoapjgkfggggmaaDoor
open Go Go.RowKit

set_option maxRecDepth 100000 in
theorem rballotE (x y : Int) (w : World) :
    Calls Tryd.prog 31 #[.agg #[.int .i64 x, .int .i64 y]] w fun r w' => r = .returned (.bool (balE x y)) ∧ Ext w w' := by
  have HE := Lib.hid ((Ext.refl w).alloc (.cells #[.int .i64 x, .int .i64 y] 23))
  have hb : balE x y = (decide (1 ≤ x) && (decide (x ≤ 1099511627776) && (decide (0 ≤ y) && decide (y ≤ 6)))) := by
    rw [Bool.eq_iff_iff, balE_iff]
    simp
  rw [hb]
  clear hb
  cases h1 : decide (1 ≤ x) <;> cases h2 : decide (x ≤ 1099511627776) <;> cases h3 : decide (0 ≤ y) <;> cases h4 : decide (y ≤ 6)
  all_goals
    go_enter Tryd.func31, Tryd.ntmps31
    go_wp2_with fail
    go_ret
    exact ⟨rfl, HE.out⟩
/-- A row of the call's own that grows. -/
structure AppS (w0 w : World) (A : Option Addr) (n c : Nat) (l : List Nat) : Prop where
  own : w.ownsRow w0.heap.size 5 1 (.slice A n c) n (vb l)
  ext : Ext w0 w
  lt : ∀ b ∈ l, b < 256
theorem AppS.more {w0 w w' : World} {A : Option Addr} {n c : Nat} {l : List Nat} (h : AppS w0 w A n c l) (k : Ext w w') : AppS w0 w' A n c l := by
  refine ⟨⟨h.own.1, ?_⟩, h.ext.trans k, h.lt⟩
  rcases h.own.2 with h2 | ⟨g, cap, cur, h2, h3, h4, h5⟩
  · exact .inl h2
  · exact .inr ⟨g, cap, cur, h2, h3, heap_ext h4 k, h5⟩
theorem AppS.by_ {w0 w : World} {A : Option Addr} {n c : Nat} {l : List Nat} (h : AppS w0 w A n c l) : By w A n c l := Bs.of_own h.own h.lt
theorem AppS.next {w0 w w2 : World} {A : Option Addr} {n c m : Nat} {l l2 : List Nat} {v : Value} (h : AppS w0 w A n c l) (h2 : w2.ownsRow w0.heap.size 5 1 v m (vb l ++ vb l2)) (hg : w.grownBy w2 (Value.slice A n c).ownBlock) (hb : ∀ b ∈ l2, b < 256) :
    ∃ A' c', v = .slice A' m c' ∧ AppS w0 w2 A' m c' (l ++ l2) ∧ Mod (fun i => (Value.slice A n c).ownBlock = some i) w w2 := by
  obtain ⟨hx, A', c', rfl, hb', ho⟩ := app_step h.ext h.own hg h2 h.lt hb
  refine ⟨A', c', rfl, ⟨ho, hx, ?_⟩, ?_⟩
  · intro b hb0
    rcases List.mem_append.1 hb0 with h0 | h0
    · exact h.lt b h0
    · exact hb b h0
  · exact (Mod.refl (fun i => (Value.slice A n c).ownBlock = some i) w).grown hg fun k hk => .inl hk
theorem AppS.off {w0 w : World} {A : Option Addr} {n c g : Nat} {l : List Nat} {cs : Array Value} {t : TypeId} {fr : Nat × Nat} (h : AppS w0 w A n c l) (hr : w.heap[g]? = some (.cells cs t fr)) (ht : t ≠ 5) : ¬ (Value.slice A n c).ownBlock = some g := by
  intro e
  rcases h.own.2 with ⟨h2, _⟩ | ⟨g', cap, cur, h2, h3, h4, h5⟩
  · rw [h2] at e
    cases e
  · rw [h2] at e
    have e : g' = g := Option.some.inj e
    subst e
    rw [hr] at h4
    injection h4 with h4
    injection h4 with _ h4 _
    exact ht h4
theorem AppS.start {w : World} (l : List Nat) (n : Nat) (hl : l.length = n) (hb : ∀ b ∈ l, b < 256) (hm : l.length ≤ 1000) (cs : Array Value) (hcs : cs = (vb l).toArray) : AppS w (w.alloc (.cells cs 5)) (some ⟨w.heap.size, 0, none⟩) n n l := by
  subst hcs
  subst hl
  have h := World.ownsRow_lit (base := w.heap.size) (e := 5) (size := 1) w (vb l).toArray l.length (Nat.le_refl _) (by unfold maxLen; omega) (by simp [vb_length])
  exact ⟨by simpa using h, (Ext.refl w).alloc _, hb⟩
set_option maxRecDepth 100000 in
set_option maxHeartbeats 1600000 in
theorem rbytes_any (k : Nat) (cl sq : Int) (ok : Nat) (key old val : ByteArray) (w : World) (hok : ok < 256) :
    Calls Tryd.prog 11 #[.agg #[.int .u8 (k : Int), .int .i64 cl, .int .i64 sq, .int .u8 (ok : Int), .string key, .string old, .string val]] w fun e w' => ∃ A' c', e = .returned (.tuple #[.slice A' (eL ⟨k, cl, sq, ok, key, old, val⟩).length c', .int .i64 (eR ⟨k, cl, sq, ok, key, old, val⟩)]) ∧ By w' A' (eL ⟨k, cl, sq, ok, key, old, val⟩).length c' (eL ⟨k, cl, sq, ok, key, old, val⟩) ∧ Ext w w' := by
  obtain ⟨i0, hi, hz0, hz1, hz2⟩ := info_parts byte_info
  have hx := (Ext.refl w).alloc (.cells #[.int .u8 (k : Int), .int .i64 cl, .int .i64 sq, .int .u8 (ok : Int), .string key, .string old, .string val] 27)
  have HT := Lib.hid (heap_alloc_new w (.cells #[.int .u8 (k : Int), .int .i64 cl, .int .i64 sq, .int .u8 (ok : Int), .string key, .string old, .string val] 27))
  have HE := Lib.hid hx
  clear hx
  cases hk : enOk ⟨k, cl, sq, ok, key, old, val⟩ with
  | false =>
    rw [eL_no hk, eR_no hk]
    have HK := Lib.hid hk
    clear hk
    go_enter Tryd.func11, Tryd.ntmps11
    go_wp2_with fail
    refine (rmay_any _ _ _ _ _ _ _ _).mono ?_
    rw [HK.out]
    rintro e w1 ⟨rfl, hx⟩
    have HE := Lib.hid (HE.out.trans hx)
    clear hx
    go_wp2_with fail
    go_ret2
    exact ⟨none, 0, rfl, By.nil_ _, HE.out⟩
  | true =>
    rw [eL_yes hk, eR_yes hk]
    have HK := Lib.hid hk
    rcases good_of hk with ⟨h1, hz⟩ | ⟨h2, p1, p2, p3, p4, p5, p6⟩
    · dsimp only at h1
      subst h1
      have hl : enL ⟨1, cl, sq, ok, key, old, val⟩ = [1] := if_pos rfl
      rw [hl]
      clear hk hl hz
      go_enter Tryd.func11, Tryd.ntmps11
      go_wp2_with fail
      refine (rmay_any _ _ _ _ _ _ _ _).mono ?_
      rw [HK.out]
      rintro e w1 ⟨rfl, hx⟩
      obtain ⟨i0, _⟩ := seven_cells (heap_ext HT.out hx)
      have HE := Lib.hid (HE.out.trans hx)
      clear hx
      go_wp2_with fail
      go_ret2
      exact ⟨_, _, rfl, By.lit w1 [1] 5 (by simp) (by simp) _ rfl, HE.out.alloc _⟩
    · dsimp only at h2 p1 p2 p3 p4 p5 p6
      subst h2
      obtain ⟨cn, rfl⟩ := Int.eq_ofNat_of_zero_le p1
      obtain ⟨sn, rfl⟩ := Int.eq_ofNat_of_zero_le (show 0 ≤ sq by omega)
      have HLN : Hid (enL ⟨2, (cn : Int), (sn : Int), ok, key, old, val⟩ = [2, cn] ++ digs 6 sn ++ [ok] ++ tx key ++ tx old ++ tx val) := Lib.hid (by
        unfold enL
        rw [if_neg (by simp)]
        dsimp only
        rw [Int.toNat_natCast, Int.toNat_natCast])
      have HN : Hid ((enL ⟨2, (cn : Int), (sn : Int), ok, key, old, val⟩).length = 9 + (key.size + 1) + (old.size + 1) + (val.size + 1)) := Lib.hid (by
        rw [HLN.out]
        simp only [List.length_append, List.length_cons, List.length_nil, digs_length, tx_length]
        omega)
      have HF6 : Hid (sn ≤ 1099511627776) := Lib.hid (by omega)
      have HS : Hid (key.size ≤ 255 ∧ old.size ≤ 255 ∧ val.size ≤ 255 ∧ ok < 256 ∧ cn < 256) := Lib.hid ⟨by omega, by omega, by omega, hok, by omega⟩
      have hcn : cn < 256 := by omega
      clear hk p1 p2 p3 p4 p5 p6 hok
      go_enter Tryd.func11, Tryd.ntmps11
      go_wp2_with fail
      refine (rmay_any _ _ _ _ _ _ _ _).mono ?_
      rw [HK.out]
      rintro e w1 ⟨rfl, hx⟩
      obtain ⟨j0, j1, j2, j3, j4, j5, j6⟩ := seven_cells (heap_ext HT.out hx)
      have HT := Lib.hid (heap_ext HT.out hx)
      have hgw : w.heap.size < w1.heap.size := (Array.getElem?_eq_some_iff.1 HT.out).1
      have HE := Lib.hid (HE.out.trans hx)
      clear hx
      go_upto_region 6 with (fail)
      have HA := Lib.hid (AppS.start (w := w1) [2, cn] 2 rfl (by simp; omega) (by simp) #[.int .u8 2, .int .u8 (cn : Int)] rfl)
      have HT := Lib.hid (heap_ext HT.out ((Ext.refl w1).alloc (.cells #[.int .u8 2, .int .u8 (cn : Int)] 5)))
      clear j0 j1 j2 j3 j4 j5 j6
      generalize (w1.alloc (.cells #[.int .u8 2, .int .u8 (cn : Int)] 5)) = w2 at *
      obtain ⟨_, _, j2, _⟩ := seven_cells HT.out
      go_wp2_with fail
      refine (rput_yes 6 sn _ (fits_six HF6.out)).mono ?_
      rintro r w3 ⟨A2, k2, rfl, hown, hx⟩
      have hx : Ext w2 w3 := hx
      have HB2 : Hid (By w3 A2 6 k2 (digs 6 sn)) := Lib.hid (Bs.of_own hown (digs_lt 6 sn))
      have HA := Lib.hid (HA.out.more hx)
      have HT := Lib.hid (heap_ext HT.out hx)
      clear hown hx j2
      go_wp2_with (at_builtin; refine wpList_append_by rfl _ _ 29 rfl w1.heap.size 5 i0 Tryd.underlying29 hi hz0 hz1 hz2 _ 2 (vb [2, cn]) rfl HA.out.own _ 6 _ (digs 6 sn) rfl HB2.out (by have := HS.out; omega) HA.out.ext.size ?_)
      intro v4 w4 hown hg
      obtain ⟨A4, c4, rfl, ha, hm⟩ := HA.out.next hown hg (digs_lt 6 sn)
      have HT := Lib.hid (heap_mod HT.out hm (HA.out.off HT.out (by decide)))
      have HA := Lib.hid ha
      clear hown hg ha hm HB2
      obtain ⟨_, _, _, j3, _⟩ := seven_cells HT.out
      have hx := (Ext.refl w4).alloc (.cells #[.int .u8 (ok : Int)] 5)
      have HA := Lib.hid (HA.out.more hx)
      have HT := Lib.hid (heap_ext HT.out hx)
      have HLIT := Lib.hid (By.lit w4 [ok] 5 (by simp; exact HS.out.2.2.2.1) (by simp) (#[.int .u8 ok]) rfl)
      clear hx
      go_wp2_with (at_builtin; refine wpList_append_by rfl _ _ 29 rfl w1.heap.size 5 i0 Tryd.underlying29 hi hz0 hz1 hz2 _ 8 (vb ([2, cn] ++ digs 6 sn)) rfl HA.out.own _ 1 _ [ok] rfl HLIT.out (by have := HS.out; omega) HA.out.ext.size ?_)
      intro v5 w5 hown hg
      obtain ⟨A5, c5, rfl, ha, hm⟩ := HA.out.next hown hg (by simp; exact HS.out.2.2.2.1)
      have HT := Lib.hid (heap_mod HT.out hm (HA.out.off HT.out (by decide)))
      have HA := Lib.hid ha
      clear hown hg ha hm HLIT j3
      obtain ⟨_, _, _, _, j4, j5, j6⟩ := seven_cells HT.out
      go_upto_region 10 with (fail)
      have hx := (Ext.refl w5).alloc (.cells #[.string key, .string old, .string val] 9)
      have HR := Lib.hid (heap_alloc_new w5 (.cells #[.string key, .string old, .string val] 9))
      have HA := Lib.hid (HA.out.more hx)
      clear hx j4 j5 j6
      generalize (w5.alloc (.cells #[.string key, .string old, .string val] 9)) = w6 at *
      generalize w5.heap.size = g5 at *
      go_wp2_with fail
      refine wp_loop_rounds 4 ?_
      rw [rounds_succ]
      have hc := cell_of_row _ g5 0 _ _ _ HR.out
      go_wp2_with fail
      refine (rtext_yes key _ (by have := HS.out; omega)).mono ?_
      rintro r v10 ⟨B10, k10, rfl, hb, hx⟩
      have HB2 : Hid (By v10 B10 _ k10 (tx key)) := Lib.hid hb
      have HA := Lib.hid (HA.out.more hx)
      have HR := Lib.hid (heap_ext HR.out hx)
      clear hb hx hc
      go_wp2_with (at_builtin; refine wpList_append_by rfl _ _ 29 rfl w1.heap.size 5 i0 Tryd.underlying29 hi hz0 hz1 hz2 _ 9 (vb ([2, cn] ++ digs 6 sn ++ [ok])) rfl HA.out.own _ (key.size + 1) _ (tx key) rfl HB2.out (by have := HS.out; omega) HA.out.ext.size ?_)
      intro v11 w12 hown hg
      obtain ⟨C12, c12, rfl, ha, hm⟩ := HA.out.next hown hg HB2.out.rd.lt
      have HR := Lib.hid (heap_mod HR.out hm (HA.out.off HR.out (by decide)))
      have HA := Lib.hid ha
      clear hown hg ha hm HB2
      go_wp2_with fail
      rw [rounds_succ]
      have hc := cell_of_row _ g5 1 _ _ _ HR.out
      go_wp2_with fail
      refine (rtext_yes old _ (by have := HS.out; omega)).mono ?_
      rintro r v20 ⟨B20, k20, rfl, hb, hx⟩
      have HB2 : Hid (By v20 B20 _ k20 (tx old)) := Lib.hid hb
      have HA := Lib.hid (HA.out.more hx)
      have HR := Lib.hid (heap_ext HR.out hx)
      clear hb hx hc
      go_wp2_with (at_builtin; refine wpList_append_by rfl _ _ 29 rfl w1.heap.size 5 i0 Tryd.underlying29 hi hz0 hz1 hz2 _ (9 + (key.size + 1)) (vb ([2, cn] ++ digs 6 sn ++ [ok] ++ tx key)) rfl HA.out.own _ (old.size + 1) _ (tx old) rfl HB2.out (by have := HS.out; omega) HA.out.ext.size ?_)
      intro v21 w22 hown hg
      obtain ⟨C22, c22, rfl, ha, hm⟩ := HA.out.next hown hg HB2.out.rd.lt
      have HR := Lib.hid (heap_mod HR.out hm (HA.out.off HR.out (by decide)))
      have HA := Lib.hid ha
      clear hown hg ha hm HB2
      go_wp2_with fail
      rw [rounds_succ]
      have hc := cell_of_row _ g5 2 _ _ _ HR.out
      go_wp2_with fail
      refine (rtext_yes val _ (by have := HS.out; omega)).mono ?_
      rintro r v30 ⟨B30, k30, rfl, hb, hx⟩
      have HB2 : Hid (By v30 B30 _ k30 (tx val)) := Lib.hid hb
      have HA := Lib.hid (HA.out.more hx)
      have HR := Lib.hid (heap_ext HR.out hx)
      clear hb hx hc
      go_wp2_with (at_builtin; refine wpList_append_by rfl _ _ 29 rfl w1.heap.size 5 i0 Tryd.underlying29 hi hz0 hz1 hz2 _ (9 + (key.size + 1) + (old.size + 1)) (vb ([2, cn] ++ digs 6 sn ++ [ok] ++ tx key ++ tx old)) rfl HA.out.own _ (val.size + 1) _ (tx val) rfl HB2.out (by have := HS.out; omega) HA.out.ext.size ?_)
      intro v31 w32 hown hg
      obtain ⟨C32, c32, rfl, ha, hm⟩ := HA.out.next hown hg HB2.out.rd.lt
      have HR := Lib.hid (heap_mod HR.out hm (HA.out.off HR.out (by decide)))
      have HA := Lib.hid ha
      clear hown hg ha hm HB2
      go_wp2_with fail
      rw [rounds_succ]
      go_wp2_with fail
      go_ret2
      refine ⟨_, _, ret_slice _ _ HN.out.symm, ?_, HE.out.trans HA.out.ext⟩
      rw [HN.out, HLN.out]
      exact HA.out.by_
end Go.Proofs.YtoapjgkfggggmaaDoor
