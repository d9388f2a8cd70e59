/-
  The contracts of slices.Collect over the iterator of hurt sectors, and of Hurt.
  The contracts of restBytes, meantBytes and isBad.
-/
import Derived.Test.YtldgamgdbneneaaDoorQ18
import Derived.Test.YtldgamgdbneneaaDoorQ21
import Derived.RangeFuncBox
import Derived.Maps.AppendAt
namespace Go.Proofs.YtldgamgdbneneaaDoor
set_option maxRecDepth 100000
open Go Go.RowKit Go.Shelf
attribute [local go_sem] Oper.semAt_some

theorem mod_of_below {n : Nat} {W W' : World} (h : Below n W W') : Mod (fun k => n ≤ k) W W' := ⟨h.os, h.tape, h.output, Below.size h, fun k _ hg => h.block k (by omega)⟩
theorem int_info : (Tryd.prog.info? 3).map (fun i => (i.zero, i.size, i.bytes)) = some (some (.int .i64 0), 1, 8) := by kernel_rfl

set_option maxRecDepth 100000 in
set_option maxHeartbeats 1600000 in
theorem appendSeq_of (p : Option Addr) (a : Int) (k : Nat) (ha : 0 ≤ a ∧ a ≤ 2000) (hk : k ≤ 2000) (h : Int → Bool) (w : World) (Bf Bs Bd : Nat) (hI : HurtsOn (fun i => w.heap.size ≤ i) w p a k h) (hlt : Bf < w.heap.size ∧ Bs < w.heap.size ∧ Bd < w.heap.size)
    (hf : w.cell? ⟨Bf, 0, none⟩ = some (.int .i64 a)) (hs : w.cell? ⟨Bs, 0, none⟩ = some (.int .i64 (k : Int))) (hd : w.cell? ⟨Bd, 0, none⟩ = some (.pointer p)) :
    Calls Tryd.prog 58 #[.slice none 0 0, .func (.func 52) #[] #[.pointer (some ⟨Bf, 0, none⟩), .pointer (some ⟨Bs, 0, none⟩), .pointer (some ⟨Bd, 0, none⟩)]] w fun e w' =>
      ∃ v, e = .returned v ∧ w'.ownsRow w.heap.size 3 1 v (hurtsIn h a k).length ((hurtsIn h a k).map (Value.int .i64)) ∧ Ext w w' := by
  obtain ⟨i0, hi, hz0, hz1, hz2⟩ := info_parts int_info
  have bO := Boxed.new w 41 (.slice none 0 0)
  have hE : Ext w (w.alloc (.cells #[.slice none 0 0] 41)) := (Ext.refl w).alloc _
  have hI1 : HurtsOn (fun i => w.heap.size ≤ i) (w.alloc (.cells #[.slice none 0 0] 41)) p a k h := fun x h1 h2 W hm => hI x h1 h2 W ((Mod.of_ext hE).trans hm fun _ hi => .inl hi)
  have hst := hurt_stops 8 (by omega) Bf Bs Bd (fun i => w.heap.size ≤ i) p a k ha hk h _ hI1 ⟨by omega, by omega, by omega⟩ (ext_of_cell hE hf) (ext_of_cell hE hs) (ext_of_cell hE hd)
  have HST := Lib.hid hst
  have HE := Lib.hid hE
  clear hI hI1 hst hf hs hd hE ha hlt
  refine calls_marks Tryd.func58 rfl ?_
  simp only [Tryd.ntmps58, List.size_toArray, List.length_cons, List.length_nil, Nat.reduceAdd, Nat.reduceSub, Array.replicate_succ, Array.replicate_zero, List.push_toArray, List.append_toArray, List.nil_append, List.cons_append]
  go_wp2_with fail
  refine (wpIn_wide (n := 9)).1 ?_
  refine wpIn_rangeFunc_ownG (F := Fence.wide) (n := 9) rfl (by omega) (gf := 52) (lb := #[.pointer (some ⟨Bf, 0, none⟩), .pointer (some ⟨Bs, 0, none⟩), .pointer (some ⟨Bd, 0, none⟩)]) rfl trivial (enters_of Tryd.func52 (by kernel_rfl) rfl)
    HST.out (fun h k => h.trans k fun _ hi => .inl hi) (fun W l o o' hl ho _ _ => mod_put (w := w) l o o' (fun k hk => hk) (Nat.le_trans HE.out.size hl) ho) (Below.refl _ _) (fun _ => rfl)
    (fun pre W => (∃ v, Boxed W w.heap.size 41 v ∧ W.ownsRow w.heap.size 3 1 v pre.length (pre.map fun x => Value.int .i64 x.1) ∧ (v = .slice none 0 0 ↔ pre = [])) ∧ Below w.heap.size w W)
    (fun _ _ _ => False)
    (OwnFrom.and (Own.from (holdsRow_own w.heap.size w.heap.size 41 3 1 (fun pre : List (SecIn a k) => pre.length) (fun pre : List (SecIn a k) => pre.map fun x => Value.int .i64 x.1) (fun pre v => v = .slice none 0 0 ↔ pre = [])) _) (ownFrom_below (Nat.le_refl _) HE.out.size))
    (fun _ _ _ _ _ hs _ _ => hs)
    ⟨⟨_, bO, World.ownsRow_nil _ _ _ _, by simp⟩, HE.out⟩
    (fun x => { tmps := #[.slice none 0 0, .func (.func 52) #[] #[.pointer (some ⟨Bf, 0, none⟩), .pointer (some ⟨Bs, 0, none⟩), .pointer (some ⟨Bd, 0, none⟩)], .pointer (some ⟨w.heap.size, 0, none⟩), undef, .slice none 0 0, .int .i64 x.1, .func (.func 52) #[] #[.pointer (some ⟨Bf, 0, none⟩), .pointer (some ⟨Bs, 0, none⟩), .pointer (some ⟨Bd, 0, none⟩)], .int .i64 x.1, undef, undef, undef, undef, undef], defers := [] }) ?assign ?body ?done ?stop
  case assign =>
    intro l x W K hK
    dsimp only [encS]
    gi_wp2
    exact hK
  case body =>
    rintro l pre x W ⟨⟨v, hv, hrow, hnil⟩, hB⟩ hlt
    have hc := hv.cell
    gi_wp2_with (gi_at_builtin; refine wpListIn_append_own _ rfl _ _ 41 rfl w.heap.size 3 i0 (.int .i64 0) 1 8 Tryd.underlying41 hi hz0 hz1 hz2 rfl (by decide) _ _ _ rfl (hrow.alloc _) ⟨W.heap.size, 0, none⟩ 1 1 [.int .i64 x.1] rfl rfl (cell_one_new _ _ _) (by simp [Value.oneCell']) (by unfold maxLen; omega) (by omega) (by have := hB.size; simp; omega) ?_; intro v' w1 hown' hgrow _; obtain ⟨g', cap', rfl⟩ := ownsRow_succ hown'; obtain ⟨hv1, hv2, hr2, hk2, hb2⟩ := hv.appended (by decide) hrow hB.size (Nat.le_refl _) hown' hgrow; have hc1 := hv1.cell; have hf1 := hv1.frozen)
    exact ⟨hk2.from _, mod_of_below hb2, ⟨_, hv2, by simpa using hr2, by simp⟩, hB.trans hb2⟩
  case done =>
    rintro D ys W hD hys ⟨⟨v, hv, hrow, hnil⟩, hB⟩ hK
    have hc := hv.cell
    have hmap : ys.map (fun x => Value.int .i64 x.1) = (hurtsIn h a k).map (Value.int .i64) := by rw [← hys, List.map_map]; rfl
    have hlen : ys.length = (hurtsIn h a k).length := by rw [← hys, List.length_map]
    rw [hmap, hlen] at hrow
    have HRW := Lib.hid hrow
    have HBB := Lib.hid hB
    clear hrow hys hmap hlen hB hnil
    go_wp2_with fail
    refine retM1 rfl hK (v := v) ?_ ?_
    · simp [results, Tryd.results58, go_sem]
    · exact ⟨v, rfl, ownsRow_putObj HRW.out _ hK rfl, HBB.out.trans (belowK_b (w := w) (Nat.le_refl _) W D _ _ (Nat.le_trans HE.out.size hD) hK rfl rfl)⟩
  case stop =>
    rintro D c pre W _ _ h _
    exact h.elim

set_option maxHeartbeats 800000 in
theorem collect_of (p : Option Addr) (a : Int) (k : Nat) (ha : 0 ≤ a ∧ a ≤ 2000) (hk : k ≤ 2000) (h : Int → Bool) (w : World) (Bf Bs Bd : Nat) (hI : HurtsOn (fun i => w.heap.size ≤ i) w p a k h) (hlt : Bf < w.heap.size ∧ Bs < w.heap.size ∧ Bd < w.heap.size)
    (hf : w.cell? ⟨Bf, 0, none⟩ = some (.int .i64 a)) (hs : w.cell? ⟨Bs, 0, none⟩ = some (.int .i64 (k : Int))) (hd : w.cell? ⟨Bd, 0, none⟩ = some (.pointer p)) :
    Calls Tryd.prog 34 #[.func (.func 52) #[] #[.pointer (some ⟨Bf, 0, none⟩), .pointer (some ⟨Bs, 0, none⟩), .pointer (some ⟨Bd, 0, none⟩)]] w fun e w' =>
      ∃ v, e = .returned v ∧ w'.ownsRow w.heap.size 3 1 v (hurtsIn h a k).length ((hurtsIn h a k).map (Value.int .i64)) ∧ Ext w w' := by
  have HA := Lib.hid (appendSeq_of p a k ha hk h w Bf Bs Bd hI hlt hf hs hd)
  clear hI hlt hf hs hd ha hk
  go_enter Tryd.func34, Tryd.ntmps34
  go_wp2_with fail
  refine HA.out.mono ?_
  rintro e w1 ⟨v, rfl, hrow, hx⟩
  have HR := Lib.hid hrow
  have HX := Lib.hid hx
  clear hrow hx
  go_wp2_with fail
  go_ret
  exact ⟨v, rfl, HR.out, HX.out⟩

/-- What Hurt answers of a pointer of whose sectors h tells. -/
theorem hurt_any {w : World} {p : Option Addr} {sz : Nat} (hS : Sized w p sz) (hsz : sz ≤ 1024) (h : Int → Bool) (hI : HurtsOn (fun i => w.heap.size ≤ i) w p 0 sz h) :
    Calls Tryd.prog 11 #[.pointer p] w fun e w' => ∃ v, e = .returned v ∧ w'.ownsRow w.heap.size 3 1 v (hurtsIn h 0 sz).length ((hurtsIn h 0 sz).map (Value.int .i64)) ∧ Ext w w' := by
  have HS := Lib.hid (hS w (Ext.refl w))
  have hE : Ext w (((w.alloc (.cells #[.pointer p] 23)).alloc (.cells #[.int .i64 0] 3)).alloc (.cells #[.int .i64 (sz : Int)] 3)) := (((Ext.refl w).alloc _).alloc _).alloc _
  have hc := collect_of p 0 sz ⟨by omega, by omega⟩ (by omega) h (((w.alloc (.cells #[.pointer p] 23)).alloc (.cells #[.int .i64 0] 3)).alloc (.cells #[.int .i64 (sz : Int)] 3)) (w.heap.size + 1) (w.heap.size + 1 + 1) w.heap.size
    (fun x h1 h2 W hm => hI x h1 h2 W ((Mod.of_ext hE).trans hm fun _ hi => .inl (Nat.le_trans hE.size hi))) (by simp; omega)
    (by simp [go_sem]) (by simp [go_sem]) (by simp [go_sem])
  have HC := Lib.hid hc
  have HE := Lib.hid hE
  clear hS hI hc hE hsz
  go_enter Tryd.func11, Tryd.ntmps11
  go_wp2_with fail
  refine HS.out.mono ?_
  rintro e w1 ⟨rfl, rfl⟩
  go_wp2_with fail
  refine (sectors_in p 0 sz _).mono ?_
  rintro e w2 ⟨rfl, rfl⟩
  go_wp2_with fail
  refine HC.out.mono ?_
  rintro e w3 ⟨v, rfl, hrow, hx⟩
  have HR := Lib.hid (own_base hrow HE.out.size)
  have HX := Lib.hid (HE.out.trans hx)
  clear hrow hx
  go_wp2_with fail
  go_ret
  exact ⟨v, rfl, HR.out, HX.out⟩
theorem hurt_pd {w : World} {d : Nat} {F : Nat → Prop} {m : DM} (h : PDisk w d F m) (hsz : m.size ≤ 1024) :
    Calls Tryd.prog 11 #[.pointer (some ⟨d, 0, none⟩)] w fun e w' => ∃ v, e = .returned v ∧ w'.ownsRow w.heap.size 3 1 v (hurtsIn m.hurt 0 m.size).length ((hurtsIn m.hurt 0 m.size).map (Value.int .i64)) ∧ Ext w w' :=
  hurt_any (Sized.of h) hsz m.hurt (HurtsOn.of h (fun i hi hg => absurd (h.lt i hi) (by omega)) 0 m.size)
end Go.Proofs.YtldgamgdbneneaaDoor

namespace Go.Proofs.YtldgamgdbneneaaDoor
set_option maxRecDepth 100000
open Go Go.RowKit

theorem at_new {w : World} {d : Nat} {F : Nat → Prop} {m : DM} (h : PDisk w d F m) (s : Int) : (∀ b ∈ (m.at_ s).1, b < 256) ∧ (m.at_ s).1.length ≤ 64 := by
  obtain ⟨g, pv, hp, _, _⟩ := h
  exact ⟨sect_lt (at_sect hp.ok s), sect_len (at_sect hp.ok s)⟩
theorem means_new {w : World} {d : Nat} {F : Nat → Prop} {m : DM} (h : PDisk w d F m) (s : Int) : (∀ b ∈ (m.means s).1, b < 256) ∧ (m.means s).1.length ≤ 64 := by
  obtain ⟨g, pv, hp, _, _⟩ := h
  exact ⟨sect_lt (means_sect hp.ok s), sect_len (means_sect hp.ok s)⟩

/-- What the observers gather, sector by sector: a row of the call's own. -/
structure Gath (w0 w : World) (v : Value) (l : List Nat) (k : Nat) : Prop where
  own : w.ownsRow w0.heap.size 5 1 v l.length (vb l)
  lt : ∀ b ∈ l, b < 256
  few : l.length ≤ 64 * k
  ext : Ext w0 w
theorem Gath.start (w : World) : Gath w w (.slice none 0 0) [] 0 := ⟨World.ownsRow_nil _ _ _ _, fun b hb => (by cases hb), by simp, Ext.refl w⟩
theorem Gath.more {w0 w w' : World} {v : Value} {l : List Nat} {k : Nat} (h : Gath w0 w v l k) (hx : Ext w w') : Gath w0 w' v l k := ⟨own_ext h.own hx, h.lt, h.few, h.ext.trans hx⟩
theorem Gath.form {w0 w : World} {v : Value} {l : List Nat} {k : Nat} (h : Gath w0 w v l k) : ∃ A c, v = .slice A l.length c ∧ By w A l.length c l := by
  obtain ⟨A, c, rfl, _, _⟩ := own_form h.own
  exact ⟨A, c, rfl, Bs.of_own h.own h.lt⟩
theorem Gath.app {w0 w w' : World} {v v' : Value} {l l2 : List Nat} {k : Nat} (h : Gath w0 w v l k) (hg : w.grownBy w' v.ownBlock) (ho : w'.ownsRow w0.heap.size 5 1 v' (l.length + l2.length) (vb l ++ vb l2)) (hl : ∀ b ∈ l2, b < 256) (hn : l2.length ≤ 64) : Gath w0 w' v' (l ++ l2) (k + 1) := by
  refine ⟨by rw [List.length_append, vb_append]; exact ho, fun b hb => (List.mem_append.1 hb).elim (h.lt b) (hl b), ?_, Below.grown h.ext hg (Ext.size h.ext) (fun g hg' => (h.own.lt g hg').1)⟩
  have := h.few
  rw [List.length_append]
  omega

set_option maxHeartbeats 800000 in
theorem meantBytes_of {w : World} {d : Nat} {F : Nat → Prop} {m : DM} (h : PDisk w d F m) (hL : LaidT w) (g p : Int) (hf : 0 ≤ firstS g p) :
    Calls Tryd.prog 33 #[.pointer (some ⟨d, 0, none⟩), .int .i64 g, .int .i64 p] w fun e w' => ∃ A c, e = .returned (.slice A (m.meantL (firstS g p) (wid g)).length c) ∧ By w' A (m.meantL (firstS g p) (wid g)).length c (m.meantL (firstS g p) (wid g)) ∧ Ext w w' := by
  obtain ⟨i0, hi, hz0, hz1, hz2⟩ := info_parts byte_info
  have hfb : firstS g p ≤ 300 := by
    have h1 := beg_le g
    have h2 := wid_le g
    by_cases hh : 0 ≤ p ∧ p < plc g
    · rw [firstS_yes hh]
      have := plc_le g
      have h3 : p * (wid g : Int) ≤ 48 * 2 := Int.mul_le_mul (by omega) (by omega) (by omega) (by omega)
      omega
    · rw [firstS_no hh]; omega
  have hw2 := wid_le g
  have HF := Lib.hid hf
  have H := Lib.hid h
  have HL := Lib.hid hL
  obtain ⟨S, hS⟩ : ∃ S, firstS g p = S := ⟨_, rfl⟩
  obtain ⟨W, hW⟩ : ∃ W, wid g = W := ⟨_, rfl⟩
  have HS := Lib.hid hS
  have HW := Lib.hid hW
  rw [hS] at hfb hf
  rw [hW] at hw2
  rw [hS, hW]
  clear h hL hS hW HF
  go_enter Tryd.func33, Tryd.ntmps33
  go_wp2_with fail
  refine (wide_any g _ HL.out).mono ?_
  rw [HW.out]
  rintro e w1 ⟨rfl, hx⟩
  have HG := Lib.hid ((Gath.start w).more hx)
  clear hx
  go_wp2_with fail
  go_loopw [7, 13] (fun b i wr => ∃ k : Nat, k ≤ W ∧ i = .int .i64 k ∧ Hid (Gath w wr b (m.meantL S k) k)) (fun _ i _ => W - (intOf i).toNat)
  case atStart => exact ⟨0, Nat.zero_le _, rfl, HG⟩
  case round =>
    obtain ⟨k, hk, rfl, HG⟩ := hrel
    obtain ⟨A, c, rfl, hby⟩ := HG.out.form
    clear hby
    by_cases hlt : k < W
    · have hn := means_new H.out (S + (k : Int))
      have hm : (m.meantL S (k + 1)) = m.meantL S k ++ (m.means (S + (k : Int))).1 := rfl
      have HM := Lib.hid hm
      have HN := Lib.hid hn
      have hfew := HG.out.few
      clear hm hn
      generalize m.meantL S k = L at *
      go_wp2_with fail
      refine (first_any g p _ (HL.out.ext HG.out.ext)).mono ?_
      rw [HS.out]
      rintro e w2 ⟨rfl, hx⟩
      have HG := Lib.hid (HG.out.more hx)
      clear hx
      go_wp2_with fail
      refine (meant_pd (H.out.ext HG.out.ext) (S + (k : Int))).mono ?_
      rintro e w3 ⟨A2, n2, rfl, hnew, hx⟩
      obtain rfl : n2 = (m.means (S + (k : Int))).1.length := hnew.len.symm
      have HB := Lib.hid hnew.by
      have HG := Lib.hid (HG.out.more hx)
      clear hx hnew
      generalize (m.means (S + (k : Int))).1 = L2 at *
      have hl2 := HN.out.2
      have hsz := HG.out.ext.size
      go_wp2_with (at_builtin; refine wpList_append_by rfl _ _ 38 rfl w.heap.size 5 i0 Tryd.underlying38 hi hz0 hz1 hz2 _ L.length (vb L) rfl HG.out.own A2 L2.length L2.length L2 rfl HB.out (by omega) hsz ?_)
      rintro v' w4 hown hgrow
      have HG := Lib.hid (HG.out.app hgrow hown HN.out.1 HN.out.2)
      clear hown hgrow
      go_wp2_with fail
      go_roundw
      case rel => exact ⟨k + 1, by omega, by go_num, by rw [HM.out]; exact HG⟩
      case measure => simp [intOf]; omega
    · obtain rfl : k = W := by omega
      go_wp2_with fail
      go_ret
      obtain ⟨A', c', e, hby⟩ := HG.out.form
      injection e with e1 _ e3
      subst e1; subst e3
      exact ⟨_, _, rfl, hby, HG.out.ext⟩

set_option maxHeartbeats 800000 in
theorem restBytes_of {w : World} {d : Nat} {F : Nat → Prop} {m : DM} (h : PDisk w d F m) (hL : LaidT w) (g p : Int) (hf : 0 ≤ firstS g p) :
    Calls Tryd.prog 55 #[.pointer (some ⟨d, 0, none⟩), .int .i64 g, .int .i64 p] w fun e w' => ∃ A n c l, e = .returned (.tuple #[.slice A n c, .bool (!m.lostB (firstS g p) (wid g))]) ∧ By w' A n c l ∧ (m.lostB (firstS g p) (wid g) = false → l = m.restL (firstS g p) (wid g)) ∧ Ext w w' := by
  obtain ⟨i0, hi, hz0, hz1, hz2⟩ := info_parts byte_info
  have hfb : firstS g p ≤ 300 := by
    have h1 := beg_le g
    have h2 := wid_le g
    by_cases hh : 0 ≤ p ∧ p < plc g
    · rw [firstS_yes hh]
      have := plc_le g
      have h3 : p * (wid g : Int) ≤ 48 * 2 := Int.mul_le_mul (by omega) (by omega) (by omega) (by omega)
      omega
    · rw [firstS_no hh]; omega
  have hw2 := wid_le g
  have H := Lib.hid h
  have HL := Lib.hid hL
  obtain ⟨S, hS⟩ : ∃ S, firstS g p = S := ⟨_, rfl⟩
  obtain ⟨W, hW⟩ : ∃ W, wid g = W := ⟨_, rfl⟩
  have HS := Lib.hid hS
  have HW := Lib.hid hW
  rw [hS] at hfb hf
  rw [hW] at hw2
  rw [hS, hW]
  clear h hL hS hW
  go_enter Tryd.func55, Tryd.ntmps55
  go_wp2_with fail
  refine (wide_any g _ HL.out).mono ?_
  rw [HW.out]
  rintro e w1 ⟨rfl, hx⟩
  have HG := Lib.hid ((Gath.start w).more hx)
  clear hx
  go_wp2_with fail
  go_loopw [8, 15] (fun b i wr => ∃ k : Nat, k ≤ W ∧ i = .int .i64 k ∧ Hid (Gath w wr b (m.restL S k) k) ∧ Hid (m.lostB S k = false)) (fun _ i _ => W - (intOf i).toNat)
  case atStart => exact ⟨0, Nat.zero_le _, rfl, HG, Lib.hid rfl⟩
  case round =>
    obtain ⟨k, hk, rfl, HG, HLO⟩ := hrel
    obtain ⟨A, c, rfl, hby⟩ := HG.out.form
    clear hby
    by_cases hlt : k < W
    · have hn := at_new H.out (S + (k : Int))
      have hm : (m.restL S (k + 1)) = m.restL S k ++ (m.at_ (S + (k : Int))).1 := rfl
      have HM := Lib.hid hm
      have HN := Lib.hid hn
      have hfew := HG.out.few
      have hlo : m.lostB S (k + 1) = (m.at_ (S + (k : Int))).2.1 := by
        have := anyIn_succ (fun s => (m.at_ s).2.1) S k
        have h2 : anyIn (fun s => (m.at_ s).2.1) S k = false := HLO.out
        rw [h2, Bool.false_or] at this
        exact this
      have hany : (m.at_ (S + (k : Int))).2.1 = true → m.lostB S W = true := fun hh => anyIn_iff.2 ⟨_, hh, by omega, by omega⟩
      have HLO2 := Lib.hid hlo
      have HANY := Lib.hid hany
      clear hm hn hlo hany
      generalize m.restL S k = L at *
      go_wp2_with fail
      refine (first_any g p _ (HL.out.ext HG.out.ext)).mono ?_
      rw [HS.out]
      rintro e w2 ⟨rfl, hx⟩
      have HG := Lib.hid (HG.out.more hx)
      clear hx
      go_wp2_with fail
      refine (rest_pd (H.out.ext HG.out.ext) (S + (k : Int))).mono ?_
      rintro e w3 ⟨A2, n2, rfl, hnew, hx⟩
      obtain rfl : n2 = (m.at_ (S + (k : Int))).1.length := hnew.len.symm
      have HB := Lib.hid hnew.by
      have HG := Lib.hid (HG.out.more hx)
      clear hx hnew
      generalize (m.at_ (S + (k : Int))).1 = L2 at *
      generalize (m.at_ (S + (k : Int))).2.2 = E2 at *
      generalize (m.at_ (S + (k : Int))).2.1 = lo at *
      cases lo with
      | true =>
        go_wp2_with fail
        refine bodyPost_ret (v := .tuple #[.slice none 0 0, .bool false]) (by simp [results, Tryd.results55, go_sem]) rfl ?_
        exact ⟨none, 0, 0, [], by rw [HANY.out (by trivial)]; rfl, By.nil_ _, fun hh => (by rw [HANY.out (by trivial)] at hh; cases hh), HG.out.ext⟩
      | false =>
        have hl2 := HN.out.2
        have hsz := HG.out.ext.size
        go_wp2_with (at_builtin; refine wpList_append_by rfl _ _ 38 rfl w.heap.size 5 i0 Tryd.underlying38 hi hz0 hz1 hz2 _ L.length (vb L) rfl HG.out.own A2 L2.length L2.length L2 rfl HB.out (by omega) hsz ?_)
        rintro v' w4 hown hgrow
        have HG := Lib.hid (HG.out.app hgrow hown HN.out.1 HN.out.2)
        clear hown hgrow
        go_wp2_with fail
        go_roundw
        case rel => exact ⟨k + 1, by omega, by go_num, by rw [HM.out]; exact HG, HLO2⟩
        case measure => simp [intOf]; omega
    · obtain rfl : k = W := by omega
      go_wp2_with fail
      obtain ⟨A', c', e, hby⟩ := HG.out.form
      injection e with e1 _ e3
      subst e1; subst e3
      refine bodyPost_ret (v := .tuple #[.slice A (m.restL S k).length c, .bool true]) (by simp [results, Tryd.results55, go_sem]) rfl ?_
      exact ⟨_, _, _, _, by rw [HLO.out]; rfl, hby, fun _ => rfl, HG.out.ext⟩

/-- A hurt place is detectable: one of its sectors is lost, or its bytes are bad there. -/
def DM.badB (m : DM) (r g p : Int) : Bool := m.lostB (firstS g p) (wid g) || decide (stM (m.restL (firstS g p) (wid g)) r g p = 2)
set_option maxHeartbeats 1600000 in
theorem isBad_of {w : World} {d : Nat} {F : Nat → Prop} {m : DM} (h : PDisk w d F m) (hL : LaidF w) (r g p : Int) (hf : 0 ≤ firstS g p) :
    Calls Tryd.prog 29 #[.pointer (some ⟨d, 0, none⟩), .int .i64 r, .int .i64 g, .int .i64 p] w fun e w' => e = .returned (.bool (m.badB r g p)) ∧ Ext w w' := by
  have hr := restBytes_of h hL.a.t g p hf
  obtain ⟨LB, hlb⟩ : ∃ LB, m.lostB (firstS g p) (wid g) = LB := ⟨_, rfl⟩
  obtain ⟨L, hl⟩ : ∃ L, m.restL (firstS g p) (wid g) = L := ⟨_, rfl⟩
  have HBB : Hid (m.badB r g p = (LB || decide (stM L r g p = 2))) := Lib.hid (by unfold DM.badB; rw [hlb, hl])
  rw [hlb, hl] at hr
  have HR := Lib.hid hr
  have HL := Lib.hid hL
  clear h hL hr hlb hl
  go_enter Tryd.func29, Tryd.ntmps29
  go_wp2_with fail
  refine HR.out.mono ?_
  rintro e w1 ⟨A, n, c, l, rfl, hb, hl, hx⟩
  have HX := Lib.hid hx
  have HB := Lib.hid hb
  have HLL := Lib.hid hl
  clear hx hb hl
  go_wp2_with fail
  refine (mine_any A n c l r g p _ (HL.out.ext HX.out) HB.out).mono ?_
  rintro e w2 ⟨A2, n2, rfl, _, hx⟩
  have HX := Lib.hid (HX.out.trans hx)
  clear hx
  cases LB with
  | true =>
    generalize stM l r g p = st at *
    generalize mfl l r g p = fl at *
    go_wp2_with fail
    refine bodyPost_ret (v := .bool true) (by simp [results, Tryd.results29, go_sem]) rfl ?_
    refine ⟨by rw [HBB.out]; rfl, ?_⟩
    exact HX.out.alloc _
  | false =>
    obtain rfl := HLL.out rfl
    have HD : Hid (((stM l r g p : Int) == 2) = decide (stM l r g p = 2)) := Lib.hid (by
      by_cases hh : stM l r g p = 2
      · simp [hh]
      · simp [hh]; omega)
    generalize stM l r g p = st at *
    generalize mfl l r g p = fl at *
    go_wp2_with fail
    refine bodyPost_ret (v := .bool ((st : Int) == 2)) (by simp [results, Tryd.results29, go_sem]) rfl ?_
    refine ⟨by rw [HBB.out, HD.out]; rfl, ?_⟩
    exact HX.out.alloc _
end Go.Proofs.YtldgamgdbneneaaDoor
