/-
  The contracts of the document's Read, at any place, and Parse.
-/
import Derived.Test.YtoapjgkfggggmaaDoorERRead
import Derived.RegionTactic
namespace Go.Proofs.YtoapjgkfggggmaaDoor
open Go Go.RowKit

set_option maxRecDepth 100000 in
set_option maxHeartbeats 1600000 in
theorem rentry_any (A : Option Addr) (n c : Nat) (l : List Nat) (a : Int) (w : World) (hb : By w A n c l) (hn : n ≤ 9000000000000000000) :
    Calls Tryd.prog 21 #[.slice A n c, .int .i64 a] w fun e w' => e = .returned (.tuple #[.agg #[.int .u8 ((rdE l a).1.k : Int), .int .i64 (rdE l a).1.cl, .int .i64 (rdE l a).1.sq, .int .u8 ((rdE l a).1.ok : Int), .string (rdE l a).1.key, .string (rdE l a).1.old, .string (rdE l a).1.val], .int .i64 ((rdE l a).2.1 : Int), .int .i64 (rdE l a).2.2]) ∧ Ext w w' := by
  have hlen := hb.len
  have hx := (Ext.refl w).alloc (.cells #[.int .u8 0, .int .i64 0, .int .i64 0, .int .u8 0, .string ⟨#[]⟩, .string ⟨#[]⟩, .string ⟨#[]⟩] 27)
  have HQ := Lib.hid (heap_alloc_new w (.cells #[.int .u8 0, .int .i64 0, .int .i64 0, .int .u8 0, .string ⟨#[]⟩, .string ⟨#[]⟩, .string ⟨#[]⟩] 27))
  have HE := Lib.hid hx
  have HE1 := Lib.hid ((Ext.refl w).alloc (.cells #[.int .u8 1, .int .i64 0, .int .i64 0, .int .u8 0, .string ⟨#[]⟩, .string ⟨#[]⟩, .string ⟨#[]⟩] 27))
  have hbx := hb.ext hx
  have HL := Lib.hid hlen
  obtain ⟨d0, d1, d2, d3, d4, d5, d6⟩ := seven_cells HQ.out
  obtain ⟨e0, e1, e2, e3, e4, e5, e6⟩ := seven_free HQ.out
  clear hx
  by_cases h1 : a < 0
  · have HN := Lib.hid (rdE_arg (l := l) (.inl h1))
    clear hb hbx hlen
    go_enter Tryd.func21, Tryd.ntmps21
    go_wp2_with fail
    refine bodyPost_ret (v := .tuple #[.agg #[.int .u8 0, .int .i64 0, .int .i64 0, .int .u8 0, .string ⟨#[]⟩, .string ⟨#[]⟩, .string ⟨#[]⟩], .int .i64 0, .int .i64 2]) ?_ rfl ⟨by rw [HN.out]; rfl, ?_⟩
    · simp [results, Tryd.results21, go_sem, d0, d1, d2, d3, d4, d5, d6]
    · exact HE.out
  by_cases h2 : (n : Int) < a
  · have HN := Lib.hid (rdE_arg (l := l) (a := a) (.inr (by rw [hlen]; exact h2)))
    clear hb hbx hlen
    go_enter Tryd.func21, Tryd.ntmps21
    go_wp2_with fail
    refine bodyPost_ret (v := .tuple #[.agg #[.int .u8 0, .int .i64 0, .int .i64 0, .int .u8 0, .string ⟨#[]⟩, .string ⟨#[]⟩, .string ⟨#[]⟩], .int .i64 0, .int .i64 2]) ?_ rfl ⟨by rw [HN.out]; rfl, ?_⟩
    · simp [results, Tryd.results21, go_sem, d0, d1, d2, d3, d4, d5, d6]
    · exact HE.out
  obtain ⟨k, rfl⟩ := Int.eq_ofNat_of_zero_le (show 0 ≤ a by omega)
  by_cases h3 : k = n
  · subst h3
    have HN := Lib.hid (rdE_none (l := l) (a := k) (by omega) (enR_raw (enRaw_end (by omega))))
    clear hb hbx hlen
    go_enter Tryd.func21, Tryd.ntmps21
    go_wp2_with fail
    refine bodyPost_ret (v := .tuple #[.agg #[.int .u8 0, .int .i64 0, .int .i64 0, .int .u8 0, .string ⟨#[]⟩, .string ⟨#[]⟩, .string ⟨#[]⟩], .int .i64 0, .int .i64 90]) ?_ rfl ⟨by rw [HN.out]; rfl, ?_⟩
    · simp [results, Tryd.results21, go_sem, d0, d1, d2, d3, d4, d5, d6]
    · exact HE.out
  have hk : k < n := by omega
  obtain ⟨g', o, x, rfl, hx, hx2, hc⟩ := by_at hbx hk
  have q2 : decide ((n : Int) < (k : Int)) = false := decide_eq_false (by omega)
  have q3 : ((k : Int) == (n : Int)) = false := by rw [beq_eq_false_iff_ne]; omega
  by_cases h4 : x = 1
  · subst h4
    have HN := Lib.hid (rdE_some (l := l) (a := k) (by omega) (enR_yes (enRaw_noop hx) (show enOk { k := 1 } = true by decide)))
    clear hb hbx hx
    go_enter Tryd.func21, Tryd.ntmps21
    go_wp2_with fail
    refine bodyPost_ret (v := .tuple #[.agg #[.int .u8 1, .int .i64 0, .int .i64 0, .int .u8 0, .string ⟨#[]⟩, .string ⟨#[]⟩, .string ⟨#[]⟩], .int .i64 ((k + 1 : Nat) : Int), .int .i64 0]) ?_ rfl ⟨by rw [HN.out]; rfl, ?_⟩
    · simp [results, Tryd.results21, go_sem]
    · exact HE1.out
  have q4 : ((x : Int) == 1) = false := by rw [beq_eq_false_iff_ne]; omega
  by_cases h5 : x = 2
  · subst h5
    by_cases h6 : k + 9 ≤ n
    · exact rread_op g' o n c k l w hb hn hx h6
    · have HN := Lib.hid (rdE_none (l := l) (a := k) (by omega) (enR_raw (enRaw_nine hx (by omega))))
      have q5 : decide ((n : Int) - (k : Int) < 9) = true := decide_eq_true (by omega)
      clear hb hbx hx
      go_enter Tryd.func21, Tryd.ntmps21
      go_wp2_with fail
      refine bodyPost_ret (v := .tuple #[.agg #[.int .u8 0, .int .i64 0, .int .i64 0, .int .u8 0, .string ⟨#[]⟩, .string ⟨#[]⟩, .string ⟨#[]⟩], .int .i64 0, .int .i64 90]) ?_ rfl ⟨by rw [HN.out]; rfl, ?_⟩
      · simp [results, Tryd.results21, go_sem, d0, d1, d2, d3, d4, d5, d6]
      · exact HE.out
  · have q5 : ((x : Int) != 2) = true := by rw [bne_iff_ne]; omega
    have HN := Lib.hid (rdE_none (l := l) (a := k) (by omega) (enR_raw (enRaw_kind hx h4 h5)))
    clear hb hbx hx
    go_enter Tryd.func21, Tryd.ntmps21
    go_wp2_with fail
    refine bodyPost_ret (v := .tuple #[.agg #[.int .u8 0, .int .i64 0, .int .i64 0, .int .u8 0, .string ⟨#[]⟩, .string ⟨#[]⟩, .string ⟨#[]⟩], .int .i64 0, .int .i64 90]) ?_ rfl ⟨by rw [HN.out]; rfl, ?_⟩
    · simp [results, Tryd.results21, go_sem, d0, d1, d2, d3, d4, d5, d6]
    · exact HE.out
set_option maxRecDepth 100000 in
set_option maxHeartbeats 1600000 in
theorem rparse_any (A : Option Addr) (n c : Nat) (l : List Nat) (w : World) (hb : By w A n c l) (hn : n ≤ 9000000000000000000) :
    Calls Tryd.prog 23 #[.slice A n c] w fun e w' => e = .returned (.tuple #[.agg #[.int .i64 ((psE l).1 : Int), .int .i64 ((psE l).2.1 : Int)], .agg #[.int .u8 ((psE l).2.2.1.k : Int), .int .i64 (psE l).2.2.1.cl, .int .i64 (psE l).2.2.1.sq, .int .u8 ((psE l).2.2.1.ok : Int), .string (psE l).2.2.1.key, .string (psE l).2.2.1.old, .string (psE l).2.2.1.val], .int .i64 (psE l).2.2.2]) ∧ Ext w w' := by
  have hlen := hb.len
  have hx1 := (Ext.refl w).alloc (.cells #[.int .i64 0, .int .i64 0] 23)
  have hx2 := (Ext.refl (w.alloc (.cells #[.int .i64 0, .int .i64 0] 23))).alloc (.cells #[.int .u8 0, .int .i64 0, .int .i64 0, .int .u8 0, .string ⟨#[]⟩, .string ⟨#[]⟩, .string ⟨#[]⟩] 27)
  have HQ2 := Lib.hid (heap_ext (heap_alloc_new w (.cells #[.int .i64 0, .int .i64 0] 23)) hx2)
  have HQ3 := Lib.hid (heap_alloc2_new w (.cells #[.int .i64 0, .int .i64 0] 23) (.cells #[.int .u8 0, .int .i64 0, .int .i64 0, .int .u8 0, .string ⟨#[]⟩, .string ⟨#[]⟩, .string ⟨#[]⟩] 27))
  have HE := Lib.hid (hx1.trans hx2)
  have HB := Lib.hid (hb.ext (hx1.trans hx2))
  have HLN := Lib.hid hlen
  clear hx1 hx2 hb
  by_cases h7 : n < 7
  · have HN := Lib.hid (psE_none (l := l) (by unfold bdR; rw [if_pos (by omega)]))
    obtain ⟨⟨u0, u1⟩, v0, v1⟩ := two_free HQ2.out
    obtain ⟨d0, d1, d2, d3, d4, d5, d6⟩ := seven_cells HQ3.out
    obtain ⟨e0, e1, e2, e3, e4, e5, e6⟩ := seven_free HQ3.out
    clear hlen
    go_enter Tryd.func23, Tryd.ntmps23
    go_wp2_with fail
    refine bodyPost_ret (v := .tuple #[.agg #[.int .i64 0, .int .i64 0], .agg #[.int .u8 0, .int .i64 0, .int .i64 0, .int .u8 0, .string ⟨#[]⟩, .string ⟨#[]⟩, .string ⟨#[]⟩], .int .i64 90]) ?_ rfl ⟨by rw [HN.out]; rfl, ?_⟩
    · simp [results, Tryd.results23, go_sem, u0, u1, d0, d1, d2, d3, d4, d5, d6]
    · exact HE.out
  obtain ⟨y, hy⟩ : ∃ y, l[6]? = some y := ⟨_, List.getElem?_eq_getElem (by omega)⟩
  obtain ⟨g', o, y', rfl, hy', hy2, c6'⟩ := by_at HB.out (show 6 < n by omega)
  obtain rfl : y = y' := by rw [hy] at hy'; exact Option.some.inj hy'
  obtain ⟨x, hxn⟩ : ∃ x, num (l.take 6) = x := ⟨_, rfl⟩
  have HG : Hid (getS l 0 6 = (x, 6, 0)) := Lib.hid (by
    have h := getS_zero (l := l) (x := 6) rfl (by omega)
    rw [hxn] at h
    exact h)
  have hd : bdR l = (enR l 7).bind fun r => if r.2 = l.length ∧ balE (x : Nat) (y : Nat) = true then some (x, y, r.1) else none := by
    unfold bdR
    rw [if_neg (by omega), hxn, show l.getD 6 0 = y from by rw [List.getD_eq_getElem?_getD, hy]; rfl]
  have hsz : ((w.alloc (.cells #[.int .i64 0, .int .i64 0] 23)).alloc (.cells #[.int .u8 0, .int .i64 0, .int .i64 0, .int .u8 0, .string ⟨#[]⟩, .string ⟨#[]⟩, .string ⟨#[]⟩] 27)).heap.size = w.heap.size + 2 := by simp
  have HB6 := Lib.hid (heap_alloc_new ((w.alloc (.cells #[.int .i64 0, .int .i64 0] 23)).alloc (.cells #[.int .u8 0, .int .i64 0, .int .i64 0, .int .u8 0, .string ⟨#[]⟩, .string ⟨#[]⟩, .string ⟨#[]⟩] 27)) (.cells #[.int .i64 (x : Int), .int .i64 (y : Int)] 23))
  rw [hsz] at HB6
  have hx := (Ext.refl ((w.alloc (.cells #[.int .i64 0, .int .i64 0] 23)).alloc (.cells #[.int .u8 0, .int .i64 0, .int .i64 0, .int .u8 0, .string ⟨#[]⟩, .string ⟨#[]⟩, .string ⟨#[]⟩] 27))).alloc (.cells #[.int .i64 (x : Int), .int .i64 (y : Int)] 23)
  have HBX := Lib.hid (HB.out.ext hx)
  have HX := Lib.hid hx
  have hy2' : IntKind.i64.wrap (y : Int) = (y : Int) := IntWalk.i64_in _ (by omega)
  have HD := Lib.hid hd
  have HRS := Lib.hid (fun x y e (h : bdR l = some (x, y, e)) => psE_some h)
  have HRN := Lib.hid (fun (h : bdR l = none) => psE_none h)
  have HR7 : Hid ((∃ e m, enR l 7 = some (e, m) ∧ rdE l 7 = (e, m, 0)) ∨ (enR l 7 = none ∧ rdE l 7 = ({}, 0, 90))) := Lib.hid (by
    cases h : enR l 7 with
    | none => exact .inr ⟨rfl, rdE_none (a := 7) (by omega) h⟩
    | some r => obtain ⟨e, m⟩ := r; exact .inl ⟨e, m, rfl, rdE_some (a := 7) (by omega) h⟩)
  clear hd hx hy hy' hxn hsz
  go_enter Tryd.func23, Tryd.ntmps23
  go_wp2_with fail
  refine (rget_any _ l n c _ _ _ _ HB.out.len HB.out.rd hn).mono ?_
  rw [HG.out]
  rintro e w' ⟨rfl, rfl⟩
  go_wp2_with fail
  have HQ2 := Lib.hid (heap_ext HQ2.out HX.out)
  have HQ3 := Lib.hid (heap_ext HQ3.out HX.out)
  have HE := Lib.hid (HE.out.trans HX.out)
  generalize (((w.alloc (.cells #[.int .i64 0, .int .i64 0] 23)).alloc (.cells #[.int .u8 0, .int .i64 0, .int .i64 0, .int .u8 0, .string ⟨#[]⟩, .string ⟨#[]⟩, .string ⟨#[]⟩] 27)).alloc (.cells #[.int .i64 (x : Int), .int .i64 (y : Int)] 23)) = W at *
  refine (rentry_any _ n c l 7 _ HBX.out hn).mono ?_
  have hgl : w.heap.size + 2 < W.heap.size := (Array.getElem?_eq_some_iff.1 HB6.out).1
  clear c6' hy2'
  rcases HR7.out with ⟨⟨ek, cl, sq, ok, key, old, val⟩, m, hr, hq⟩ | ⟨hr, hq⟩
  · rw [hq]
    dsimp only
    rintro e w1 ⟨rfl, hx⟩
    have hx2 := hx.trans ((Ext.refl w1).alloc (.cells #[.int .u8 (ek : Int), .int .i64 cl, .int .i64 sq, .int .u8 (ok : Int), .string key, .string old, .string val] 27))
    have HB7 := Lib.hid (heap_alloc_new w1 (.cells #[.int .u8 (ek : Int), .int .i64 cl, .int .i64 sq, .int .u8 (ok : Int), .string key, .string old, .string val] 27))
    have HQ2 := Lib.hid (heap_ext HQ2.out hx2)
    have HQ3 := Lib.hid (heap_ext HQ3.out hx2)
    have HB6 := Lib.hid (heap_ext HB6.out hx2)
    have HE := Lib.hid (HE.out.trans hx2)
    have hgl2 := Nat.lt_of_lt_of_le hgl hx.size
    rw [hr] at HD
    clear hx hx2 hr hq HR7
    go_upto_region 6 with (fail)
    generalize (w1.alloc (.cells #[.int .u8 (ek : Int), .int .i64 cl, .int .i64 sq, .int .u8 (ok : Int), .string key, .string old, .string val] 27)) = W1 at *
    generalize hg7 : w1.heap.size = g7 at *
    obtain ⟨⟨u0, u1⟩, v0, v1⟩ := two_free HQ2.out
    obtain ⟨d0, d1, d2, d3, d4, d5, d6⟩ := seven_cells HQ3.out
    obtain ⟨e0, e1, e2, e3, e4, e5, e6⟩ := seven_free HQ3.out
    obtain ⟨⟨b0, b1⟩, _⟩ := two_free HB6.out
    obtain ⟨c0, c1, c2, c3, c4, c5, c6⟩ := seven_cells HB7.out
    by_cases hm : m = n
    · subst hm
      have hne : ((m : Int) != (m : Int)) = false := by simp
      cases hb : balE (x : Int) (y : Int) with
      | false =>
        have HN := Lib.hid (HRN.out (by rw [HD.out]; simp [hb]))
        have HBB := Lib.hid hb
        clear HRN HRS hb
        go_wp2_with fail
        refine (rballotE _ _ _).mono ?_
        rw [HBB.out]
        rintro e w5 ⟨rfl, hx⟩
        have HQ2 := Lib.hid (heap_ext HQ2.out hx)
        have HQ3 := Lib.hid (heap_ext HQ3.out hx)
        have HB6 := Lib.hid (heap_ext HB6.out hx)
        have HB7 := Lib.hid (heap_ext HB7.out hx)
        have HE := Lib.hid (HE.out.trans hx)
        clear hx
        clear u0 u1 v0 v1 d0 d1 d2 d3 d4 d5 d6 e0 e1 e2 e3 e4 e5 e6 b0 b1 c0 c1 c2 c3 c4 c5 c6
        obtain ⟨⟨u0, u1⟩, v0, v1⟩ := two_free HQ2.out
        obtain ⟨d0, d1, d2, d3, d4, d5, d6⟩ := seven_cells HQ3.out
        obtain ⟨e0, e1, e2, e3, e4, e5, e6⟩ := seven_free HQ3.out
        obtain ⟨⟨b0, b1⟩, _⟩ := two_free HB6.out
        obtain ⟨c0, c1, c2, c3, c4, c5, c6⟩ := seven_cells HB7.out
        go_wp2_with fail
        refine bodyPost_ret (v := .tuple #[.agg #[.int .i64 0, .int .i64 0], .agg #[.int .u8 0, .int .i64 0, .int .i64 0, .int .u8 0, .string ⟨#[]⟩, .string ⟨#[]⟩, .string ⟨#[]⟩], .int .i64 90]) ?_ rfl ⟨by rw [HN.out]; rfl, ?_⟩
        · simp [results, Tryd.results23, go_sem, u0, u1, d0, d1, d2, d3, d4, d5, d6]
        · exact ext_set7 (ext_set2 HE.out (Nat.le_refl _) _ _) (by omega) _ _ _ _ _ _ _
      | true =>
        have HN := Lib.hid (HRS.out x y ⟨ek, cl, sq, ok, key, old, val⟩ (by rw [HD.out]; simp [hb, HLN.out]))
        have HBB := Lib.hid hb
        clear HRN HRS hb
        go_wp2_with fail
        refine (rballotE _ _ _).mono ?_
        rw [HBB.out]
        rintro e w5 ⟨rfl, hx⟩
        have HQ2 := Lib.hid (heap_ext HQ2.out hx)
        have HQ3 := Lib.hid (heap_ext HQ3.out hx)
        have HB6 := Lib.hid (heap_ext HB6.out hx)
        have HB7 := Lib.hid (heap_ext HB7.out hx)
        have HE := Lib.hid (HE.out.trans hx)
        clear hx
        clear u0 u1 v0 v1 d0 d1 d2 d3 d4 d5 d6 e0 e1 e2 e3 e4 e5 e6 b0 b1 c0 c1 c2 c3 c4 c5 c6
        obtain ⟨⟨u0, u1⟩, v0, v1⟩ := two_free HQ2.out
        obtain ⟨d0, d1, d2, d3, d4, d5, d6⟩ := seven_cells HQ3.out
        obtain ⟨e0, e1, e2, e3, e4, e5, e6⟩ := seven_free HQ3.out
        obtain ⟨⟨b0, b1⟩, _⟩ := two_free HB6.out
        obtain ⟨c0, c1, c2, c3, c4, c5, c6⟩ := seven_cells HB7.out
        go_wp2_with fail
        go_region
        go_wp2_with fail
        refine bodyPost_ret (v := .tuple #[.agg #[.int .i64 (x : Int), .int .i64 (y : Int)], .agg #[.int .u8 (ek : Int), .int .i64 cl, .int .i64 sq, .int .u8 (ok : Int), .string key, .string old, .string val], .int .i64 0]) ?_ rfl ⟨by rw [HN.out], ?_⟩
        · simp [results, Tryd.results23, go_sem, u0, u1, d0, d1, d2, d3, d4, d5, d6]
        · exact (ext_set7 (ext_set2 HE.out (Nat.le_refl _) _ _) (by omega) _ _ _ _ _ _ _).drew
    · have hne : ((m : Int) != (n : Int)) = true := by rw [bne_iff_ne]; omega
      have HN := Lib.hid (HRN.out (by rw [HD.out]; simp [HLN.out, hm]))
      clear HRN HRS hm
      go_wp2_with fail
      refine bodyPost_ret (v := .tuple #[.agg #[.int .i64 0, .int .i64 0], .agg #[.int .u8 0, .int .i64 0, .int .i64 0, .int .u8 0, .string ⟨#[]⟩, .string ⟨#[]⟩, .string ⟨#[]⟩], .int .i64 90]) ?_ rfl ⟨by rw [HN.out]; rfl, ?_⟩
      · simp [results, Tryd.results23, go_sem, u0, u1, d0, d1, d2, d3, d4, d5, d6]
      · exact ext_set7 (ext_set2 HE.out (Nat.le_refl _) _ _) (by omega) _ _ _ _ _ _ _
  · rw [hq]
    dsimp only
    rintro e w1 ⟨rfl, hx⟩
    have hx2 := hx.trans ((Ext.refl w1).alloc (.cells #[.int .u8 0, .int .i64 0, .int .i64 0, .int .u8 0, .string ByteArray.empty, .string ByteArray.empty, .string ByteArray.empty] 27))
    have HQ2 := Lib.hid (heap_ext HQ2.out hx2)
    have HQ3 := Lib.hid (heap_ext HQ3.out hx2)
    have HE := Lib.hid (HE.out.trans hx2)
    have HN := Lib.hid (HRN.out (by rw [HD.out, hr]; rfl))
    clear hx hx2 hr hq HR7
    go_upto_region 6 with (fail)
    generalize (w1.alloc (.cells #[.int .u8 0, .int .i64 0, .int .i64 0, .int .u8 0, .string ByteArray.empty, .string ByteArray.empty, .string ByteArray.empty] 27)) = W1 at *
    obtain ⟨⟨u0, u1⟩, v0, v1⟩ := two_free HQ2.out
    obtain ⟨d0, d1, d2, d3, d4, d5, d6⟩ := seven_cells HQ3.out
    obtain ⟨e0, e1, e2, e3, e4, e5, e6⟩ := seven_free HQ3.out
    go_wp2_with fail
    refine bodyPost_ret (v := .tuple #[.agg #[.int .i64 0, .int .i64 0], .agg #[.int .u8 0, .int .i64 0, .int .i64 0, .int .u8 0, .string ⟨#[]⟩, .string ⟨#[]⟩, .string ⟨#[]⟩], .int .i64 90]) ?_ rfl ⟨by rw [HN.out]; rfl, ?_⟩
    · simp [results, Tryd.results23, go_sem, u0, u1, d0, d1, d2, d3, d4, d5, d6]
    · exact ext_set7 (ext_set2 HE.out (Nat.le_refl _) _ _) (by omega) _ _ _ _ _ _ _
end Go.Proofs.YtoapjgkfggggmaaDoor
