/-
  The walk of EntryBack: a body that is printed is parsed as it was, and has at most 59 bytes; bytes that are parsed are those of what they are. (By program: geneback.py.)
-/
import Derived.Test.YtoapjgkfggggmaaDoorEAwake
import Derived.Test.YtoapjgkfggggmaaDoorSC
import Derived.Test.YtoapjgkfggggmaaDoorEOpen
namespace Go.Proofs.YtoapjgkfggggmaaDoor
open Go Go.RowKit

theorem enOk_byte {e : Ent} (h : enOk e = true) : e.ok < 256 := by
  have := good_of h
  omega
set_option maxRecDepth 100000 in
set_option maxHeartbeats 3200000 in
theorem entryBack_law (x y : Int) (e : Ent) (A : Option Addr) (n c : Nat) (c0 : List Nat) (w : World) (hw : e.Wf) (hb : Bs w w.heap.size A n c c0) (hL : Laid w) :
    Calls Tryd.prog 5 #[.agg #[.int .i64 x, .int .i64 y], .agg #[.int .u8 (e.k : Nat), .int .i64 e.cl, .int .i64 e.sq, .int .u8 (e.ok : Nat), .string e.key, .string e.old, .string e.val], .slice A n c] w fun r w' => r = .returned (.bool true) ∧ Below w.heap.size w w' := by
  show Calls Tryd.prog 5 #[.agg #[.int .i64 x, .int .i64 y], .agg #[.int .u8 (e.k : Nat), .int .i64 e.cl, .int .i64 e.sq, .int .u8 (e.ok : Nat), .string e.key, .string e.old, .string e.val], .slice A n c] w fun r w' => r = .returned (.bool true) ∧ Ext w w'
  obtain ⟨k, cl, sq, ok, key, old, val⟩ := e
  have hok : ok < 256 := hw.ok
  clear hw
  dsimp only
  have hcap := hb.cap
  have hmost := hb.most
  have hx1 := (Ext.refl w).alloc (.cells #[.int .i64 x, .int .i64 y] 23)
  have hx2 := (Ext.refl (w.alloc (.cells #[.int .i64 x, .int .i64 y] 23))).alloc (.cells #[.int .u8 (k : Int), .int .i64 cl, .int .i64 sq, .int .u8 (ok : Int), .string key, .string old, .string val] 27)
  have HTB := Lib.hid (heap_ext (heap_alloc_new w (.cells #[.int .i64 x, .int .i64 y] 23)) hx2)
  have HT := Lib.hid (heap_alloc2_new w (.cells #[.int .i64 x, .int .i64 y] 23) (.cells #[.int .u8 (k : Int), .int .i64 cl, .int .i64 sq, .int .u8 (ok : Int), .string key, .string old, .string val] 27))
  have HE := Lib.hid (hx1.trans hx2)
  have HL := Lib.hid (hL.ext (hx1.trans hx2))
  have HB : Hid (By _ A n c c0) := Lib.hid (By.ext hb (hx1.trans hx2))
  have HLN := Lib.hid hb.len
  have HLT := Lib.hid hb.rd.lt
  clear hx1 hx2 hL hb
  cases hg : grE key old val with
  | true =>
    have HG := Lib.hid hg
    clear hg
    go_enter Tryd.func5, Tryd.ntmps5
    go_wp2_with fail
    refine (eawake_any _ HL.out).mono ?_
    rintro r w1 ⟨rfl, hx⟩
    have HT := Lib.hid (heap_ext HT.out hx)
    have HE := Lib.hid (HE.out.trans hx)
    clear hx
    obtain ⟨i0, i1, i2, i3, i4, i5, i6⟩ := seven_cells HT.out
    go_wp2_with fail
    refine (great_any _ _ _ _ _ _ _ _).mono ?_
    rw [HG.out]
    rintro r w2 ⟨rfl, hx⟩
    have HE := Lib.hid (HE.out.trans hx)
    clear hx i0 i1 i2 i3 i4 i5 i6
    go_wp2_with fail
    go_ret
    exact ⟨rfl, HE.out⟩
  | false =>
    have HG := Lib.hid hg
    clear hg
    by_cases hn : 300 < n
    · go_enter Tryd.func5, Tryd.ntmps5
      go_wp2_with fail
      refine (eawake_any _ HL.out).mono ?_
      rintro r w1 ⟨rfl, hx⟩
      have HT := Lib.hid (heap_ext HT.out hx)
      have HE := Lib.hid (HE.out.trans hx)
      clear hx
      obtain ⟨i0, i1, i2, i3, i4, i5, i6⟩ := seven_cells HT.out
      go_wp2_with fail
      refine (great_any _ _ _ _ _ _ _ _).mono ?_
      rw [HG.out]
      rintro r w2 ⟨rfl, hx⟩
      have HE := Lib.hid (HE.out.trans hx)
      clear hx i0 i1 i2 i3 i4 i5 i6
      go_wp2_with fail
      go_ret
      exact ⟨rfl, HE.out⟩
    have hp1 := fun V (hV : Laid V) => print_any x y k cl sq ok key old val V hV hok
    have hps := fun V hLV (hV : By V A n c c0) => parse_any A n c c0 V hLV hV (by omega)
    by_cases hpk : balE x y = true ∧ enOk ⟨k, cl, sq, ok, key, old, val⟩ = true
    · obtain ⟨hbal, hk⟩ := hpk
      rw [pL_yes hbal hk, pR_yes hbal hk] at hp1
      obtain ⟨xn, yn, hxe, hye, hbk⟩ := bd_back hk hbal
      subst hxe hye
      have hlen := bodyL_len (x := (xn : Int)) (y := (yn : Int)) hk
      generalize bodyL (xn : Int) (yn : Int) ⟨k, cl, sq, ok, key, old, val⟩ = T at *
      have HP2 := Lib.hid (fun A' c' V hLV (hV : By V A' T.length c' T) => by
        have h := parse_any A' T.length c' T V hLV hV (by omega)
        rw [psE_some hbk] at h
        exact h)
      have HLE : Hid (¬ (59 < T.length)) := Lib.hid (by omega)
      have HKK := Lib.hid hk
      have HP1 := Lib.hid hp1
      clear hbal hk hbk hlen hp1 hok
      cases hbc : bdR c0 with
      | none =>
        rw [psE_none hbc] at hps
        have HC : Hid (∀ V, Laid V → By V A n c c0 → Calls Tryd.prog 22 #[.slice A n c] V fun e w' => e = .returned (.tuple #[.agg #[.int .i64 0, .int .i64 0], .agg #[.int .u8 0, .int .i64 0, .int .i64 0, .int .u8 0, .string ⟨#[]⟩, .string ⟨#[]⟩, .string ⟨#[]⟩], .int .i64 90]) ∧ Ext V w') := Lib.hid hps
        clear hps hbc
        go_enter Tryd.func5, Tryd.ntmps5
        go_wp2_with fail
        refine (eawake_any _ HL.out).mono ?_
        rintro r w1 ⟨rfl, hx⟩
        have HL := Lib.hid (HL.out.ext hx)
        have HB := Lib.hid (HB.out.ext hx)
        have HT := Lib.hid (heap_ext HT.out hx)
        have HTB := Lib.hid (heap_ext HTB.out hx)
        have HE := Lib.hid (HE.out.trans hx)
        clear hx
        obtain ⟨i0, i1, i2, i3, i4, i5, i6⟩ := seven_cells HT.out
        go_wp2_with fail
        refine (great_any _ _ _ _ _ _ _ _).mono ?_
        rw [HG.out]
        rintro r w2 ⟨rfl, hx⟩
        have HL := Lib.hid (HL.out.ext hx)
        have HB := Lib.hid (HB.out.ext hx)
        have HT := Lib.hid (heap_ext HT.out hx)
        have HTB := Lib.hid (heap_ext HTB.out hx)
        have HE := Lib.hid (HE.out.trans hx)
        clear hx i0 i1 i2 i3 i4 i5 i6
        obtain ⟨i0, i1, i2, i3, i4, i5, i6⟩ := seven_cells HT.out
        obtain ⟨b0, b1⟩ := two_cells HTB.out
        go_wp2_with fail
        refine (HP1.out _ HL.out).mono ?_
        rintro r w3 ⟨A3, c3, rfl, hb, hx⟩
        have HL := Lib.hid (HL.out.ext hx)
        have HB := Lib.hid (HB.out.ext hx)
        have HT := Lib.hid (heap_ext HT.out hx)
        have HTB := Lib.hid (heap_ext HTB.out hx)
        have HE := Lib.hid (HE.out.trans hx)
        have HB3 := Lib.hid hb
        clear hb hx i0 i1 i2 i3 i4 i5 i6 b0 b1
        go_wp2_with fail
        refine (HP2.out A3 c3 _ HL.out HB3.out).mono ?_
        rintro r w4 ⟨rfl, hx⟩
        have hx1 := (Ext.refl w4).alloc (.cells #[.int .i64 (xn : Int), .int .i64 (yn : Int)] 23)
        have hx2 := (Ext.refl (w4.alloc (.cells #[.int .i64 (xn : Int), .int .i64 (yn : Int)] 23))).alloc (.cells #[.int .u8 (k : Int), .int .i64 cl, .int .i64 sq, .int .u8 (ok : Int), .string key, .string old, .string val] 27)
        have HP := Lib.hid (heap_ext (heap_alloc_new w4 (.cells #[.int .i64 (xn : Int), .int .i64 (yn : Int)] 23)) hx2)
        have HQ := Lib.hid (heap_alloc2_new w4 (.cells #[.int .i64 (xn : Int), .int .i64 (yn : Int)] 23) (.cells #[.int .u8 (k : Int), .int .i64 cl, .int .i64 sq, .int .u8 (ok : Int), .string key, .string old, .string val] 27))
        have hx := hx.trans (hx1.trans hx2)
        have HL := Lib.hid (HL.out.ext hx)
        have HB := Lib.hid (HB.out.ext hx)
        have HT := Lib.hid (heap_ext HT.out hx)
        have HTB := Lib.hid (heap_ext HTB.out hx)
        have HE := Lib.hid (HE.out.trans hx)
        clear hx hx1 hx2
        go_upto_region 8 with (fail)
        generalize ((w4.alloc (.cells #[.int .i64 (xn : Int), .int .i64 (yn : Int)] 23)).alloc (.cells #[.int .u8 (k : Int), .int .i64 cl, .int .i64 sq, .int .u8 (ok : Int), .string key, .string old, .string val] 27)) = w5 at *
        generalize w4.heap.size = g4 at *
        obtain ⟨i0, i1, i2, i3, i4, i5, i6⟩ := seven_cells HT.out
        obtain ⟨b0, b1⟩ := two_cells HTB.out
        obtain ⟨p0, p1⟩ := two_cells HP.out
        obtain ⟨q0, q1, q2, q3, q4, q5, q6⟩ := seven_cells HQ.out
        have hq1 := ent_neq_self k cl sq ok key old val
        have hq3 := bal_neq_self (xn : Int) (yn : Int)
        have hg1 : Tryd.prog.eqGuardType Tryd.prog.depth 27 = false := by kernel_rfl
        have hg2 : Tryd.prog.eqGuardType Tryd.prog.depth 23 = false := by kernel_rfl
        have h59 := HLE.out
        go_wp2_with fail
        refine (may_any _ _ _ _ _ _ _ _).mono ?_
        rw [HKK.out]
        rintro r w6 ⟨rfl, hx⟩
        have HL := Lib.hid (HL.out.ext hx)
        have HB := Lib.hid (HB.out.ext hx)
        have HE := Lib.hid (HE.out.trans hx)
        clear hx i0 i1 i2 i3 i4 i5 i6 b0 b1 p0 p1 q0 q1 q2 q3 q4 q5 q6 hq1 hq3 hg1 hg2 h59
        go_wp2_with fail
        refine (HC.out _ HL.out HB.out).mono ?_
        rintro r w7 ⟨rfl, hx⟩
        have hx1 := (Ext.refl w7).alloc (.cells #[.int .i64 0, .int .i64 0] 23)
        have hx2 := (Ext.refl (w7.alloc (.cells #[.int .i64 0, .int .i64 0] 23))).alloc (.cells #[.int .u8 0, .int .i64 0, .int .i64 0, .int .u8 0, .string ⟨#[]⟩, .string ⟨#[]⟩, .string ⟨#[]⟩] 27)
        have HP := Lib.hid (heap_ext (heap_alloc_new w7 (.cells #[.int .i64 0, .int .i64 0] 23)) hx2)
        have HQ := Lib.hid (heap_alloc2_new w7 (.cells #[.int .i64 0, .int .i64 0] 23) (.cells #[.int .u8 0, .int .i64 0, .int .i64 0, .int .u8 0, .string ⟨#[]⟩, .string ⟨#[]⟩, .string ⟨#[]⟩] 27))
        have HE := Lib.hid (HE.out.trans (hx.trans (hx1.trans hx2)))
        clear hx hx1 hx2
        go_upto_region 13 with (fail)
        generalize ((w7.alloc (.cells #[.int .i64 0, .int .i64 0] 23)).alloc (.cells #[.int .u8 0, .int .i64 0, .int .i64 0, .int .u8 0, .string ⟨#[]⟩, .string ⟨#[]⟩, .string ⟨#[]⟩] 27)) = w8 at *
        generalize w7.heap.size = g7 at *
        obtain ⟨p0, p1⟩ := two_cells HP.out
        obtain ⟨q0, q1, q2, q3, q4, q5, q6⟩ := seven_cells HQ.out
        have hq1 : ∀ w, (binOp .eql 27 (.agg #[.int .u8 0, .int .i64 0, .int .i64 0, .int .u8 0, .string ⟨#[]⟩, .string ⟨#[]⟩, .string ⟨#[]⟩]) (.agg #[.int .u8 0, .int .i64 0, .int .i64 0, .int .u8 0, .string ⟨#[]⟩, .string ⟨#[]⟩, .string ⟨#[]⟩])).run Tryd.prog w = .ok (.bool true) w := fun w => ent_eql_self 0 0 0 0 ⟨#[]⟩ ⟨#[]⟩ ⟨#[]⟩ w
        have hq3 := bal_eql_self 0 0
        have hg1 : Tryd.prog.eqGuardType Tryd.prog.depth 27 = false := by kernel_rfl
        have hg2 : Tryd.prog.eqGuardType Tryd.prog.depth 23 = false := by kernel_rfl
        go_wp2_with fail
        go_ret
        exact ⟨rfl, HE.out⟩
      | some r =>
        obtain ⟨x2, y2, ⟨k2, cl2, sq2, ok2, key2, old2, val2⟩⟩ := r
        rw [psE_some hbc] at hps
        obtain ⟨hT2, hk2, hb2⟩ := bd_of HLT.out hbc
        have hp3 := fun V (hV : Laid V) => print_any (x2 : Int) (y2 : Int) k2 cl2 sq2 ok2 key2 old2 val2 V hV (enOk_byte hk2)
        rw [pL_yes hb2 hk2, pR_yes hb2 hk2, hT2, HLN.out] at hp3
        have HC := Lib.hid hps
        have HC3 := Lib.hid hp3
        clear hps hbc hT2 hk2 hb2 hp3
        go_enter Tryd.func5, Tryd.ntmps5
        go_wp2_with fail
        refine (eawake_any _ HL.out).mono ?_
        rintro r w1 ⟨rfl, hx⟩
        have HL := Lib.hid (HL.out.ext hx)
        have HB := Lib.hid (HB.out.ext hx)
        have HT := Lib.hid (heap_ext HT.out hx)
        have HTB := Lib.hid (heap_ext HTB.out hx)
        have HE := Lib.hid (HE.out.trans hx)
        clear hx
        obtain ⟨i0, i1, i2, i3, i4, i5, i6⟩ := seven_cells HT.out
        go_wp2_with fail
        refine (great_any _ _ _ _ _ _ _ _).mono ?_
        rw [HG.out]
        rintro r w2 ⟨rfl, hx⟩
        have HL := Lib.hid (HL.out.ext hx)
        have HB := Lib.hid (HB.out.ext hx)
        have HT := Lib.hid (heap_ext HT.out hx)
        have HTB := Lib.hid (heap_ext HTB.out hx)
        have HE := Lib.hid (HE.out.trans hx)
        clear hx i0 i1 i2 i3 i4 i5 i6
        obtain ⟨i0, i1, i2, i3, i4, i5, i6⟩ := seven_cells HT.out
        obtain ⟨b0, b1⟩ := two_cells HTB.out
        go_wp2_with fail
        refine (HP1.out _ HL.out).mono ?_
        rintro r w3 ⟨A3, c3, rfl, hb, hx⟩
        have HL := Lib.hid (HL.out.ext hx)
        have HB := Lib.hid (HB.out.ext hx)
        have HT := Lib.hid (heap_ext HT.out hx)
        have HTB := Lib.hid (heap_ext HTB.out hx)
        have HE := Lib.hid (HE.out.trans hx)
        have HB3 := Lib.hid hb
        clear hb hx i0 i1 i2 i3 i4 i5 i6 b0 b1
        go_wp2_with fail
        refine (HP2.out A3 c3 _ HL.out HB3.out).mono ?_
        rintro r w4 ⟨rfl, hx⟩
        have hx1 := (Ext.refl w4).alloc (.cells #[.int .i64 (xn : Int), .int .i64 (yn : Int)] 23)
        have hx2 := (Ext.refl (w4.alloc (.cells #[.int .i64 (xn : Int), .int .i64 (yn : Int)] 23))).alloc (.cells #[.int .u8 (k : Int), .int .i64 cl, .int .i64 sq, .int .u8 (ok : Int), .string key, .string old, .string val] 27)
        have HP := Lib.hid (heap_ext (heap_alloc_new w4 (.cells #[.int .i64 (xn : Int), .int .i64 (yn : Int)] 23)) hx2)
        have HQ := Lib.hid (heap_alloc2_new w4 (.cells #[.int .i64 (xn : Int), .int .i64 (yn : Int)] 23) (.cells #[.int .u8 (k : Int), .int .i64 cl, .int .i64 sq, .int .u8 (ok : Int), .string key, .string old, .string val] 27))
        have hx := hx.trans (hx1.trans hx2)
        have HL := Lib.hid (HL.out.ext hx)
        have HB := Lib.hid (HB.out.ext hx)
        have HT := Lib.hid (heap_ext HT.out hx)
        have HTB := Lib.hid (heap_ext HTB.out hx)
        have HE := Lib.hid (HE.out.trans hx)
        clear hx hx1 hx2
        go_upto_region 8 with (fail)
        generalize ((w4.alloc (.cells #[.int .i64 (xn : Int), .int .i64 (yn : Int)] 23)).alloc (.cells #[.int .u8 (k : Int), .int .i64 cl, .int .i64 sq, .int .u8 (ok : Int), .string key, .string old, .string val] 27)) = w5 at *
        generalize w4.heap.size = g4 at *
        obtain ⟨i0, i1, i2, i3, i4, i5, i6⟩ := seven_cells HT.out
        obtain ⟨b0, b1⟩ := two_cells HTB.out
        obtain ⟨p0, p1⟩ := two_cells HP.out
        obtain ⟨q0, q1, q2, q3, q4, q5, q6⟩ := seven_cells HQ.out
        have hq1 := ent_neq_self k cl sq ok key old val
        have hq3 := bal_neq_self (xn : Int) (yn : Int)
        have hg1 : Tryd.prog.eqGuardType Tryd.prog.depth 27 = false := by kernel_rfl
        have hg2 : Tryd.prog.eqGuardType Tryd.prog.depth 23 = false := by kernel_rfl
        have h59 := HLE.out
        go_wp2_with fail
        refine (may_any _ _ _ _ _ _ _ _).mono ?_
        rw [HKK.out]
        rintro r w6 ⟨rfl, hx⟩
        have HL := Lib.hid (HL.out.ext hx)
        have HB := Lib.hid (HB.out.ext hx)
        have HE := Lib.hid (HE.out.trans hx)
        clear hx i0 i1 i2 i3 i4 i5 i6 b0 b1 p0 p1 q0 q1 q2 q3 q4 q5 q6 hq1 hq3 hg1 hg2 h59
        go_wp2_with fail
        refine (HC.out _ HL.out HB.out).mono ?_
        rintro r w7 ⟨rfl, hx⟩
        have hx1 := (Ext.refl w7).alloc (.cells #[.int .i64 (x2 : Int), .int .i64 (y2 : Int)] 23)
        have hx2 := (Ext.refl (w7.alloc (.cells #[.int .i64 (x2 : Int), .int .i64 (y2 : Int)] 23))).alloc (.cells #[.int .u8 (k2 : Int), .int .i64 cl2, .int .i64 sq2, .int .u8 (ok2 : Int), .string key2, .string old2, .string val2] 27)
        have HP := Lib.hid (heap_ext (heap_alloc_new w7 (.cells #[.int .i64 (x2 : Int), .int .i64 (y2 : Int)] 23)) hx2)
        have HQ := Lib.hid (heap_alloc2_new w7 (.cells #[.int .i64 (x2 : Int), .int .i64 (y2 : Int)] 23) (.cells #[.int .u8 (k2 : Int), .int .i64 cl2, .int .i64 sq2, .int .u8 (ok2 : Int), .string key2, .string old2, .string val2] 27))
        have hx := hx.trans (hx1.trans hx2)
        have HL := Lib.hid (HL.out.ext hx)
        have HB := Lib.hid (HB.out.ext hx)
        have HE := Lib.hid (HE.out.trans hx)
        clear hx hx1 hx2
        go_upto_region 13 with (fail)
        generalize ((w7.alloc (.cells #[.int .i64 (x2 : Int), .int .i64 (y2 : Int)] 23)).alloc (.cells #[.int .u8 (k2 : Int), .int .i64 cl2, .int .i64 sq2, .int .u8 (ok2 : Int), .string key2, .string old2, .string val2] 27)) = w8 at *
        generalize w7.heap.size = g7 at *
        obtain ⟨p0, p1⟩ := two_cells HP.out
        obtain ⟨q0, q1, q2, q3, q4, q5, q6⟩ := seven_cells HQ.out
        go_wp2_with fail
        refine (HC3.out _ HL.out).mono ?_
        rintro r w9 ⟨A9, c9, rfl, hb, hx⟩
        have HB9 := Lib.hid hb
        have HB := Lib.hid (HB.out.ext hx)
        have HE := Lib.hid (HE.out.trans hx)
        clear hb hx
        go_wp2_with fail
        refine (same_by A9 A c0 c0 n n c9 c _ HB9.out HB.out).mono ?_
        rw [decide_eq_true (rfl : c0 = c0)]
        rintro r w10 ⟨rfl, hx⟩
        have HE := Lib.hid (HE.out.trans hx)
        clear hx
        go_wp2_with fail
        go_ret
        exact ⟨rfl, HE.out⟩
    · have hpl : pL x y ⟨k, cl, sq, ok, key, old, val⟩ = [] := if_neg hpk
      have hpr : pR x y ⟨k, cl, sq, ok, key, old, val⟩ = 2 := if_neg hpk
      rw [hpl, hpr] at hp1
      have HP1 : Hid (∀ V, Laid V → Calls Tryd.prog 12 #[.agg #[.int .i64 x, .int .i64 y], .agg #[.int .u8 (k : Int), .int .i64 cl, .int .i64 sq, .int .u8 (ok : Int), .string key, .string old, .string val]] V fun e w' => ∃ A' c', e = .returned (.tuple #[.slice A' 0 c', .int .i64 2]) ∧ By w' A' 0 c' [] ∧ Ext V w') := Lib.hid hp1
      clear hpk hpl hpr hp1 hok
      cases hbc : bdR c0 with
      | none =>
        rw [psE_none hbc] at hps
        have HC : Hid (∀ V, Laid V → By V A n c c0 → Calls Tryd.prog 22 #[.slice A n c] V fun e w' => e = .returned (.tuple #[.agg #[.int .i64 0, .int .i64 0], .agg #[.int .u8 0, .int .i64 0, .int .i64 0, .int .u8 0, .string ⟨#[]⟩, .string ⟨#[]⟩, .string ⟨#[]⟩], .int .i64 90]) ∧ Ext V w') := Lib.hid hps
        clear hps hbc
        go_enter Tryd.func5, Tryd.ntmps5
        go_wp2_with fail
        refine (eawake_any _ HL.out).mono ?_
        rintro r w1 ⟨rfl, hx⟩
        have HL := Lib.hid (HL.out.ext hx)
        have HB := Lib.hid (HB.out.ext hx)
        have HT := Lib.hid (heap_ext HT.out hx)
        have HTB := Lib.hid (heap_ext HTB.out hx)
        have HE := Lib.hid (HE.out.trans hx)
        clear hx
        obtain ⟨i0, i1, i2, i3, i4, i5, i6⟩ := seven_cells HT.out
        go_wp2_with fail
        refine (great_any _ _ _ _ _ _ _ _).mono ?_
        rw [HG.out]
        rintro r w2 ⟨rfl, hx⟩
        have HL := Lib.hid (HL.out.ext hx)
        have HB := Lib.hid (HB.out.ext hx)
        have HT := Lib.hid (heap_ext HT.out hx)
        have HTB := Lib.hid (heap_ext HTB.out hx)
        have HE := Lib.hid (HE.out.trans hx)
        clear hx i0 i1 i2 i3 i4 i5 i6
        obtain ⟨i0, i1, i2, i3, i4, i5, i6⟩ := seven_cells HT.out
        obtain ⟨b0, b1⟩ := two_cells HTB.out
        go_wp2_with fail
        refine (HP1.out _ HL.out).mono ?_
        rintro r w3 ⟨A3, c3, rfl, hb, hx⟩
        have HL := Lib.hid (HL.out.ext hx)
        have HB := Lib.hid (HB.out.ext hx)
        have HT := Lib.hid (heap_ext HT.out hx)
        have HTB := Lib.hid (heap_ext HTB.out hx)
        have HE := Lib.hid (HE.out.trans hx)
        have HB3 := Lib.hid hb
        clear hb hx i0 i1 i2 i3 i4 i5 i6 b0 b1
        go_wp2_with fail
        refine (HC.out _ HL.out HB.out).mono ?_
        rintro r w7 ⟨rfl, hx⟩
        have hx1 := (Ext.refl w7).alloc (.cells #[.int .i64 0, .int .i64 0] 23)
        have hx2 := (Ext.refl (w7.alloc (.cells #[.int .i64 0, .int .i64 0] 23))).alloc (.cells #[.int .u8 0, .int .i64 0, .int .i64 0, .int .u8 0, .string ⟨#[]⟩, .string ⟨#[]⟩, .string ⟨#[]⟩] 27)
        have HP := Lib.hid (heap_ext (heap_alloc_new w7 (.cells #[.int .i64 0, .int .i64 0] 23)) hx2)
        have HQ := Lib.hid (heap_alloc2_new w7 (.cells #[.int .i64 0, .int .i64 0] 23) (.cells #[.int .u8 0, .int .i64 0, .int .i64 0, .int .u8 0, .string ⟨#[]⟩, .string ⟨#[]⟩, .string ⟨#[]⟩] 27))
        have HE := Lib.hid (HE.out.trans (hx.trans (hx1.trans hx2)))
        clear hx hx1 hx2
        go_upto_region 13 with (fail)
        generalize ((w7.alloc (.cells #[.int .i64 0, .int .i64 0] 23)).alloc (.cells #[.int .u8 0, .int .i64 0, .int .i64 0, .int .u8 0, .string ⟨#[]⟩, .string ⟨#[]⟩, .string ⟨#[]⟩] 27)) = w8 at *
        generalize w7.heap.size = g7 at *
        obtain ⟨p0, p1⟩ := two_cells HP.out
        obtain ⟨q0, q1, q2, q3, q4, q5, q6⟩ := seven_cells HQ.out
        have hq1 : ∀ w, (binOp .eql 27 (.agg #[.int .u8 0, .int .i64 0, .int .i64 0, .int .u8 0, .string ⟨#[]⟩, .string ⟨#[]⟩, .string ⟨#[]⟩]) (.agg #[.int .u8 0, .int .i64 0, .int .i64 0, .int .u8 0, .string ⟨#[]⟩, .string ⟨#[]⟩, .string ⟨#[]⟩])).run Tryd.prog w = .ok (.bool true) w := fun w => ent_eql_self 0 0 0 0 ⟨#[]⟩ ⟨#[]⟩ ⟨#[]⟩ w
        have hq3 := bal_eql_self 0 0
        have hg1 : Tryd.prog.eqGuardType Tryd.prog.depth 27 = false := by kernel_rfl
        have hg2 : Tryd.prog.eqGuardType Tryd.prog.depth 23 = false := by kernel_rfl
        go_wp2_with fail
        go_ret
        exact ⟨rfl, HE.out⟩
      | some r =>
        obtain ⟨x2, y2, ⟨k2, cl2, sq2, ok2, key2, old2, val2⟩⟩ := r
        rw [psE_some hbc] at hps
        obtain ⟨hT2, hk2, hb2⟩ := bd_of HLT.out hbc
        have hp3 := fun V (hV : Laid V) => print_any (x2 : Int) (y2 : Int) k2 cl2 sq2 ok2 key2 old2 val2 V hV (enOk_byte hk2)
        rw [pL_yes hb2 hk2, pR_yes hb2 hk2, hT2, HLN.out] at hp3
        have HC := Lib.hid hps
        have HC3 := Lib.hid hp3
        clear hps hbc hT2 hk2 hb2 hp3
        go_enter Tryd.func5, Tryd.ntmps5
        go_wp2_with fail
        refine (eawake_any _ HL.out).mono ?_
        rintro r w1 ⟨rfl, hx⟩
        have HL := Lib.hid (HL.out.ext hx)
        have HB := Lib.hid (HB.out.ext hx)
        have HT := Lib.hid (heap_ext HT.out hx)
        have HTB := Lib.hid (heap_ext HTB.out hx)
        have HE := Lib.hid (HE.out.trans hx)
        clear hx
        obtain ⟨i0, i1, i2, i3, i4, i5, i6⟩ := seven_cells HT.out
        go_wp2_with fail
        refine (great_any _ _ _ _ _ _ _ _).mono ?_
        rw [HG.out]
        rintro r w2 ⟨rfl, hx⟩
        have HL := Lib.hid (HL.out.ext hx)
        have HB := Lib.hid (HB.out.ext hx)
        have HT := Lib.hid (heap_ext HT.out hx)
        have HTB := Lib.hid (heap_ext HTB.out hx)
        have HE := Lib.hid (HE.out.trans hx)
        clear hx i0 i1 i2 i3 i4 i5 i6
        obtain ⟨i0, i1, i2, i3, i4, i5, i6⟩ := seven_cells HT.out
        obtain ⟨b0, b1⟩ := two_cells HTB.out
        go_wp2_with fail
        refine (HP1.out _ HL.out).mono ?_
        rintro r w3 ⟨A3, c3, rfl, hb, hx⟩
        have HL := Lib.hid (HL.out.ext hx)
        have HB := Lib.hid (HB.out.ext hx)
        have HT := Lib.hid (heap_ext HT.out hx)
        have HTB := Lib.hid (heap_ext HTB.out hx)
        have HE := Lib.hid (HE.out.trans hx)
        have HB3 := Lib.hid hb
        clear hb hx i0 i1 i2 i3 i4 i5 i6 b0 b1
        go_wp2_with fail
        refine (HC.out _ HL.out HB.out).mono ?_
        rintro r w7 ⟨rfl, hx⟩
        have hx1 := (Ext.refl w7).alloc (.cells #[.int .i64 (x2 : Int), .int .i64 (y2 : Int)] 23)
        have hx2 := (Ext.refl (w7.alloc (.cells #[.int .i64 (x2 : Int), .int .i64 (y2 : Int)] 23))).alloc (.cells #[.int .u8 (k2 : Int), .int .i64 cl2, .int .i64 sq2, .int .u8 (ok2 : Int), .string key2, .string old2, .string val2] 27)
        have HP := Lib.hid (heap_ext (heap_alloc_new w7 (.cells #[.int .i64 (x2 : Int), .int .i64 (y2 : Int)] 23)) hx2)
        have HQ := Lib.hid (heap_alloc2_new w7 (.cells #[.int .i64 (x2 : Int), .int .i64 (y2 : Int)] 23) (.cells #[.int .u8 (k2 : Int), .int .i64 cl2, .int .i64 sq2, .int .u8 (ok2 : Int), .string key2, .string old2, .string val2] 27))
        have hx := hx.trans (hx1.trans hx2)
        have HL := Lib.hid (HL.out.ext hx)
        have HB := Lib.hid (HB.out.ext hx)
        have HE := Lib.hid (HE.out.trans hx)
        clear hx hx1 hx2
        go_upto_region 13 with (fail)
        generalize ((w7.alloc (.cells #[.int .i64 (x2 : Int), .int .i64 (y2 : Int)] 23)).alloc (.cells #[.int .u8 (k2 : Int), .int .i64 cl2, .int .i64 sq2, .int .u8 (ok2 : Int), .string key2, .string old2, .string val2] 27)) = w8 at *
        generalize w7.heap.size = g7 at *
        obtain ⟨p0, p1⟩ := two_cells HP.out
        obtain ⟨q0, q1, q2, q3, q4, q5, q6⟩ := seven_cells HQ.out
        go_wp2_with fail
        refine (HC3.out _ HL.out).mono ?_
        rintro r w9 ⟨A9, c9, rfl, hb, hx⟩
        have HB9 := Lib.hid hb
        have HB := Lib.hid (HB.out.ext hx)
        have HE := Lib.hid (HE.out.trans hx)
        clear hb hx
        go_wp2_with fail
        refine (same_by A9 A c0 c0 n n c9 c _ HB9.out HB.out).mono ?_
        rw [decide_eq_true (rfl : c0 = c0)]
        rintro r w10 ⟨rfl, hx⟩
        have HE := Lib.hid (HE.out.trans hx)
        clear hx
        go_wp2_with fail
        go_ret
        exact ⟨rfl, HE.out⟩
end Go.Proofs.YtoapjgkfggggmaaDoor
