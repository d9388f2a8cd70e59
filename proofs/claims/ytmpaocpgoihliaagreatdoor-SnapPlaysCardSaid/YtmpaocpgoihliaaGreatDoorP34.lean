/-
  The contract of Store.
-/
import Derived.Test.YtmpaocpgoihliaaGreatDoorP00
import Derived.Test.YtmpaocpgoihliaaGreatDoorP33
namespace Go.Proofs.YtmpaocpgoihliaaGreatDoor
set_option maxRecDepth 100000
section
open Go Go.RowKit
theorem tag_row (w : World) (a b : Array Value) (s t : TypeId) : ((w.alloc (.cells a s)).alloc (.cells b t)).drew.heap[w.heap.size + 1]? = some (.cells b t (0, 0)) := by
 have h := heap_alloc_new (w.alloc (.cells a s)) (.cells b t)
 rw [show (w.alloc (.cells a s)).heap.size = w.heap.size + 1 by simp] at h
 exact h
theorem tag_row0 (w : World) (a b : Array Value) (s t : TypeId) : ((w.alloc (.cells a s)).alloc (.cells b t)).heap[w.heap.size + 1]? = some (.cells b t (0, 0)) := tag_row w a b s t
theorem putC_waits (m : DM) (s : Int) (L : List Nat) : (m.putC s L).2.waits.length ≤ m.waits.length + 1 := by
 have h1 : (m.write s L).2.waits.length ≤ m.waits.length + 1 := by
  unfold DM.write
  (repeat' split) <;> simp
 unfold DM.putC
 split
 ·exact h1
 ·refine Nat.le_trans ?_ h1
  unfold DM.flush
  (repeat' split) <;> simp
theorem two_index0 (a b : Int) (w : World) : (Instr.index 234 (.agg #[.int .i64 a, .int .i64 b]) (.int .i64 0)).run Tryz.prog w = .ok (.int .i64 a) w := by kernel_rfl
theorem two_index1 (a b : Int) (w : World) : (Instr.index 234 (.agg #[.int .i64 a, .int .i64 b]) (.int .i64 1)).run Tryz.prog w = .ok (.int .i64 b) w := by kernel_rfl
theorem Store_unknown {w : World} {p : Option Addr} {sz : Nat} (hS : Sized w p sz) (hL : LaidT w) (r g c : Int) (A : Option Addr) (n cp : Nat) (hk : knownC sz r g ≠ 0) :
 Calls Tryz.prog 77 #[.pointer p, .int .i64 r, .int .i64 g, .int .i64 c, .slice A n cp] w fun e w' => e = .returned (.int .i64 (knownC sz r g)) ∧ Ext w w' := by
 have hc := cknown_of hS hL r g
 obtain ⟨E, hE⟩ : ∃ E, knownC sz r g = E := ⟨_, rfl⟩
 rw [hE] at hc hk ⊢
 have HC := Lib.hid hc
 have hne : (E != 0) = true := by simpa using hk
 clear hS hL hc hE hk
 go_enter Tryz.func77, Tryz.ntmps77
 go_wp2_with fail
 refine HC.out.mono ?_
 rintro e w1 ⟨rfl, hx⟩
 have HX := Lib.hid hx
 clear hx
 go_wp2_with fail
 go_ret
 exact ⟨rfl, HX.out⟩
theorem Store_arg {w : World} {d : Nat} {F : Nat → Prop} {m : DM} (h : PDisk w d F m) (hL : LaidF w) (r g c : Int) (A : Option Addr) (n cp : Nat)  (hk : knownC m.size r g = 0) (hc1 : c < 1 ∨ 1099511627776 < c) :
 Calls Tryz.prog 77 #[.pointer (some ⟨d, 0, none⟩), .int .i64 r, .int .i64 g, .int .i64 c, .slice A n cp] w fun e w' => e = .returned (.int .i64 2) ∧ Ext w w' := by
 have hc := cknown_of (Sized.of h) hL.a.t r g
 rw [hk] at hc
 have HC := Lib.hid hc
 clear h hL hc hk
 by_cases h1 : c < 1
 ·clear hc1
  go_enter Tryz.func77, Tryz.ntmps77
  go_wp2_with fail
  refine HC.out.mono ?_
  rintro e w1 ⟨rfl, hx⟩
  have HX := Lib.hid hx
  clear hx
  go_wp2_with fail
  go_ret
  exact ⟨rfl, HX.out⟩
 ·have h2 : 1099511627776 < c := by omega
  clear hc1
  go_enter Tryz.func77, Tryz.ntmps77
  go_wp2_with fail
  refine HC.out.mono ?_
  rintro e w1 ⟨rfl, hx⟩
  have HX := Lib.hid hx
  clear hx
  go_wp2_with fail
  go_ret
  exact ⟨rfl, HX.out⟩
theorem Store_long {w : World} {d : Nat} {F : Nat → Prop} {m : DM} (h : PDisk w d F m) (hL : LaidF w) (r g c : Int) (A : Option Addr) (n cp : Nat)  (hk : knownC m.size r g = 0) (h1 : ¬ c < 1) (h2 : ¬ 1099511627776 < c) (h3 : 43 < n) :
 Calls Tryz.prog 77 #[.pointer (some ⟨d, 0, none⟩), .int .i64 r, .int .i64 g, .int .i64 c, .slice A n cp] w fun e w' => e = .returned (.int .i64 3) ∧ Ext w w' := by
 have hc := cknown_of (Sized.of h) hL.a.t r g
 rw [hk] at hc
 have HC := Lib.hid hc
 clear h hL hc hk
 go_enter Tryz.func77, Tryz.ntmps77
 go_wp2_with fail
 refine HC.out.mono ?_
 rintro e w1 ⟨rfl, hx⟩
 have HX := Lib.hid hx
 clear hx
 go_wp2_with fail
 refine (room_any 1 _).mono ?_
 rintro e wr ⟨rfl, rfl⟩
 rw [roomN_one]
 go_wp2_with fail
 go_ret
 exact ⟨rfl, HX.out⟩
theorem Store_fail {w : World} {d : Nat} {F : Nat → Prop} {m : DM} (h : PDisk w d F m) (hL : LaidF w) (r g c : Int) (A : Option Addr) (n cp : Nat)  (hfew : m.waits.length + 1 ≤ 1000000) (hk : knownC m.size r g = 0) (h1 : ¬ c < 1) (h2 : ¬ 1099511627776 < c) (h3 : ¬ 43 < n) (E : Int) (hE : m.loadE r g = E) (h0 : E ≠ 0) :
 Calls Tryz.prog 77 #[.pointer (some ⟨d, 0, none⟩), .int .i64 r, .int .i64 g, .int .i64 c, .slice A n cp] w fun e w' => e = .returned (.int .i64 E) ∧ Ext w w' := by
 have hc := cknown_of (Sized.of h) hL.a.t r g
 rw [hk] at hc
 have HC := Lib.hid hc
 have hl := fun w' (hx : Ext w w') => load_fail (h.ext hx) (hL.ext hx) r g (by omega) _ hE h0
 have hne : (E != 0) = true := by simpa using h0
 have HLD := Lib.hid hl
 clear h hL hc hk hl hE h0 hfew
 go_enter Tryz.func77, Tryz.ntmps77
 go_wp2_with fail
 refine HC.out.mono ?_
 rintro e w1 ⟨rfl, hx⟩
 have HX := Lib.hid hx
 clear hx
 go_wp2_with fail
 refine (room_any 1 _).mono ?_
 rintro e wr ⟨rfl, rfl⟩
 rw [roomN_one]
 go_wp2_with fail
 refine (HLD.out _ HX.out).mono ?_
 rintro e w2 ⟨⟨_, _, _, _, _, _, _, _, _, _, _, _, _, _, _, _, _, _, rfl⟩, hx⟩
 have HX := Lib.hid (HX.out.trans hx)
 clear hx
 go_wp2_with fail
 go_ret
 exact ⟨rfl, by repeat (first | exact HX.out | refine Ext.drew ?_ | refine Ext.alloc ?_ _)⟩
set_option maxHeartbeats 1600000 in
theorem Store_full0 {w : World} {d : Nat} {F : Nat → Prop} {m : DM} (h : PDisk w d F m) (hL : LaidF w) (r g c : Int) (A : Option Addr) (n cp : Nat)  (hfew : m.waits.length + 1 ≤ 1000000) (hk : knownC m.size r g = 0) (h1 : ¬ c < 1) (h2 : ¬ 1099511627776 < c) (h3 : ¬ 43 < n) (hE : m.loadE r g = 0) (x y : List Nat) (hx : m.cb g 0 = x) (hy : m.cb g 1 = y) (ha : atC r g x y = 0) (hv : mfl x r g 0 3 = 1099511627776) :
 Calls Tryz.prog 77 #[.pointer (some ⟨d, 0, none⟩), .int .i64 r, .int .i64 g, .int .i64 c, .slice A n cp] w fun e w' => e = .returned (.int .i64 4) ∧ Ext w w' := by
 have hc := cknown_of (Sized.of h) hL.a.t r g
 rw [hk] at hc
 have HC := Lib.hid hc
 have hl := fun w' (hq : Ext w w') => load_at (h.ext hq) (hL.ext hq) r g (by omega) (loadE_up hE) x y hx hy 0 (by omega) (Lib.hid ha)
 have hq : (((mfl x r g 0 3 : Nat) : Int) == 1099511627776) = true := by rw [hv]; rfl
 have HLD := Lib.hid hl
 clear h hL hc hk hl hE hfew hx hy ha hv
 go_enter Tryz.func77, Tryz.ntmps77
 go_wp2_with fail
 refine HC.out.mono ?_
 rintro e w1 ⟨rfl, hx⟩
 have HX := Lib.hid hx
 clear hx
 go_wp2_with fail
 refine (room_any 1 _).mono ?_
 rintro e wr ⟨rfl, rfl⟩
 rw [roomN_one]
 go_wp2_with fail
 refine (HLD.out _ HX.out).mono ?_
 rintro e w2 ⟨A0, N0, A1, N1, rfl, hb0, hb1, hx⟩
 have HX := Lib.hid (HX.out.trans hx)
 clear hx hb0 hb1
 have HPR := Lib.hid (heap_alloc_new w2 (.cells #[.int .u8 (stM x r g 0 : Nat), .int .i64 (mfl x r g 0 0 : Nat), .int .i64 (mfl x r g 0 1 : Nat), .int .i64 (mfl x r g 0 2 : Nat), .int .i64 (mfl x r g 0 3 : Nat), .int .i64 (mfl x r g 0 4 : Nat), .slice A0 N0 N0, .int .u8 (stM y r g 1 : Nat), .int .i64 (mfl y r g 1 0 : Nat), .int .i64 (mfl y r g 1 1 : Nat), .int .i64 (mfl y r g 1 2 : Nat), .int .i64 (mfl y r g 1 3 : Nat), .int .i64 (mfl y r g 1 4 : Nat), .slice A1 N1 N1] 220))
 have HPX := Lib.hid ((Ext.refl w2).alloc (.cells #[.int .u8 (stM x r g 0 : Nat), .int .i64 (mfl x r g 0 0 : Nat), .int .i64 (mfl x r g 0 1 : Nat), .int .i64 (mfl x r g 0 2 : Nat), .int .i64 (mfl x r g 0 3 : Nat), .int .i64 (mfl x r g 0 4 : Nat), .slice A0 N0 N0, .int .u8 (stM y r g 1 : Nat), .int .i64 (mfl y r g 1 0 : Nat), .int .i64 (mfl y r g 1 1 : Nat), .int .i64 (mfl y r g 1 2 : Nat), .int .i64 (mfl y r g 1 3 : Nat), .int .i64 (mfl y r g 1 4 : Nat), .slice A1 N1 N1] 220))
 have hk1 : Hid (Ext (w2.alloc (.cells #[.int .u8 (stM x r g 0 : Nat), .int .i64 (mfl x r g 0 0 : Nat), .int .i64 (mfl x r g 0 1 : Nat), .int .i64 (mfl x r g 0 2 : Nat), .int .i64 (mfl x r g 0 3 : Nat), .int .i64 (mfl x r g 0 4 : Nat), .slice A0 N0 N0, .int .u8 (stM y r g 1 : Nat), .int .i64 (mfl y r g 1 0 : Nat), .int .i64 (mfl y r g 1 1 : Nat), .int .i64 (mfl y r g 1 2 : Nat), .int .i64 (mfl y r g 1 3 : Nat), .int .i64 (mfl y r g 1 4 : Nat), .slice A1 N1 N1] 220)).drew (w2.alloc (.cells #[.int .u8 (stM x r g 0 : Nat), .int .i64 (mfl x r g 0 0 : Nat), .int .i64 (mfl x r g 0 1 : Nat), .int .i64 (mfl x r g 0 2 : Nat), .int .i64 (mfl x r g 0 3 : Nat), .int .i64 (mfl x r g 0 4 : Nat), .slice A0 N0 N0, .int .u8 (stM y r g 1 : Nat), .int .i64 (mfl y r g 1 0 : Nat), .int .i64 (mfl y r g 1 1 : Nat), .int .i64 (mfl y r g 1 2 : Nat), .int .i64 (mfl y r g 1 3 : Nat), .int .i64 (mfl y r g 1 4 : Nat), .slice A1 N1 N1] 220)).drew) := Lib.hid (Ext.refl _)
 go_wp2_with fail
 go_region_held3 (fun w' => w'.cell? ⟨w2.heap.size, 0, none⟩ = some (.int .u8 (stM x r g 0 : Nat)) ∧ w'.cell? ⟨w2.heap.size, 1, none⟩ = some (.int .i64 (mfl x r g 0 0 : Nat)) ∧ w'.cell? ⟨w2.heap.size, 2, none⟩ = some (.int .i64 (mfl x r g 0 1 : Nat)) ∧ w'.cell? ⟨w2.heap.size, 3, none⟩ = some (.int .i64 (mfl x r g 0 2 : Nat)) ∧ w'.cell? ⟨w2.heap.size, 4, none⟩ = some (.int .i64 (mfl x r g 0 3 : Nat)) ∧ w'.cell? ⟨w2.heap.size, 5, none⟩ = some (.int .i64 (mfl x r g 0 4 : Nat)) ∧ w'.cell? ⟨w2.heap.size, 6, none⟩ = some (.slice A0 N0 N0) ∧ w'.cell? ⟨w2.heap.size, 7, none⟩ = some (.int .u8 (stM y r g 1 : Nat)) ∧ w'.cell? ⟨w2.heap.size, 8, none⟩ = some (.int .i64 (mfl y r g 1 0 : Nat)) ∧ w'.cell? ⟨w2.heap.size, 9, none⟩ = some (.int .i64 (mfl y r g 1 1 : Nat)) ∧ w'.cell? ⟨w2.heap.size, 10, none⟩ = some (.int .i64 (mfl y r g 1 2 : Nat)) ∧ w'.cell? ⟨w2.heap.size, 11, none⟩ = some (.int .i64 (mfl y r g 1 3 : Nat)) ∧ w'.cell? ⟨w2.heap.size, 12, none⟩ = some (.int .i64 (mfl y r g 1 4 : Nat)) ∧ w'.cell? ⟨w2.heap.size, 13, none⟩ = some (.slice A1 N1 N1))
  (exact cells14 (row_keep (by assumption) HPR))
  (first
   | (go_at_call 156; ((with_reducible refine (other0 _).mono ?_); rintro e w3 ⟨rfl, rfl⟩)))
 go_wp2_with fail
 go_ret
 exact ⟨rfl, by repeat (first | exact HX.out | refine Ext.drew ?_ | refine Ext.alloc ?_ _)⟩
set_option maxHeartbeats 1600000 in
theorem Store_at0 {w : World} {d : Nat} {F : Nat → Prop} {m : DM} (h : PDisk w d F m) (hL : LaidF w) (r g c : Int) (A : Option Addr) (n cp : Nat)  (body : List Nat) (hLM : ∀ V, Mod F w V → LaidF V) (hb : By w A n cp body) (ho : ∀ g o, A = some ⟨g, o, none⟩ → 0 < n → ¬ F g) (hfew : m.waits.length + 2 ≤ 1000000) (hk : knownC m.size r g = 0) (h1 : ¬ c < 1) (h2 : ¬ 1099511627776 < c) (h3 : ¬ 43 < n) (hE : m.loadE r g = 0) (x y : List Nat) (hx : m.cb g 0 = x) (hy : m.cb g 1 = y) (ha : atC r g x y = 0) (v : Nat) (hv : mfl x r g 0 3 = v) (hv2 : v < 1099511627776) :
 Calls Tryz.prog 77 #[.pointer (some ⟨d, 0, none⟩), .int .i64 r, .int .i64 g, .int .i64 c, .slice A n cp] w fun e w' => e = .returned (.int .i64 (m.puts2 r g 1 (v + 1) c.toNat body).1) ∧ Step d F w (m.puts2 r g 1 (v + 1) c.toNat body).2 w' := by
 have hc := cknown_of (Sized.of h) hL.a.t r g
 rw [hk] at hc
 have HC := Lib.hid hc
 have hl := fun w' (hq : Ext w w') => load_at (h.ext hq) (hL.ext hq) r g (by omega) (loadE_up hE) x y hx hy 0 (by omega) (Lib.hid ha)
 have hq : ((v : Int) == 1099511627776) = false := by simp; omega
 have hq1 : IntKind.i64.wrap ((v : Int) + 1) = (v : Int) + 1 := IntWalk.i64_in _ (by omega)
 have hkn := knownC_ok hk
 have H := Lib.hid h
 have HL := Lib.hid hL
 have HB := Lib.hid hb
 have HO := Lib.hid ho
 have HLM := Lib.hid hLM
 obtain ⟨R, hR⟩ : ∃ R, m.puts2 r g 1 (v + 1) c.toNat body = R := ⟨_, rfl⟩
 have HRQ := Lib.hid hR
 rw [hR]
 have hput : ∀ (V : World) (F' : Nat → Prop) (m1 : DM) (q : Int), PDisk V d F' m1 → LaidF V → By V A n cp body → q = 0 ∨ q = 1 → m1.waits.length + 1 ≤ 1000000 → Calls Tryz.prog 158 #[.pointer (some ⟨d, 0, none⟩), .agg #[.int .i64 r, .int .i64 g, .int .i64 0, .int .i64 ((v : Int) + 1), .int .i64 c], .int .i64 q, .slice A n cp] V fun e w' =>
  e = .returned (.int .i64 (m1.putC (firstS g q) (sealC r g q (v + 1) c.toNat body)).1) ∧ Step d F' V (m1.putC (firstS g q) (sealC r g q (v + 1) c.toNat body)).2 w' := fun V F' m1 q hp hl' hb' hq' hw => by
  have := cput_of hp hl' r g 0 ((v : Int) + 1) c q A n cp body hb' (by rw [show (v : Int) + 1 = ((v + 1 : Nat) : Int) by omega]; exact seal_one (may_store hkn.2.2 hkn.2.1 hq' hv2 (by omega)) (by omega)) hw
  unfold sealC
  rw [show ((v + 1 : Nat) : Int) = (v : Int) + 1 by omega, show ((c.toNat : Nat) : Int) = c by omega]
  exact this
 have HPUT := Lib.hid hput
 rw [hv] at hl
 have HLD := Lib.hid hl
 have HNL : Hid (body.length = n) := Lib.hid hb.len
 clear h hL hLM hb ho hc hk hl hE hx hy ha hput hkn hv hR
 have ix0 := fun w => two_index0 1 0 w
 have ix1 := fun w => two_index1 1 0 w
 go_enter Tryz.func77, Tryz.ntmps77
 go_wp2_with fail
 refine HC.out.mono ?_
 rintro e w1 ⟨rfl, hx⟩
 have HX := Lib.hid hx
 clear hx
 go_wp2_with fail
 refine (room_any 1 _).mono ?_
 rintro e wr ⟨rfl, rfl⟩
 rw [roomN_one]
 go_wp2_with fail
 refine (HLD.out _ HX.out).mono ?_
 rintro e w2 ⟨A0, N0, A1, N1, rfl, hb0, hb1, hx⟩
 have HX := Lib.hid (HX.out.trans hx)
 clear hx hb0 hb1
 have HPR := Lib.hid (heap_alloc_new w2 (.cells #[.int .u8 (stM x r g 0 : Nat), .int .i64 (mfl x r g 0 0 : Nat), .int .i64 (mfl x r g 0 1 : Nat), .int .i64 (mfl x r g 0 2 : Nat), .int .i64 (v : Nat), .int .i64 (mfl x r g 0 4 : Nat), .slice A0 N0 N0, .int .u8 (stM y r g 1 : Nat), .int .i64 (mfl y r g 1 0 : Nat), .int .i64 (mfl y r g 1 1 : Nat), .int .i64 (mfl y r g 1 2 : Nat), .int .i64 (mfl y r g 1 3 : Nat), .int .i64 (mfl y r g 1 4 : Nat), .slice A1 N1 N1] 220))
 have HPX := Lib.hid ((Ext.refl w2).alloc (.cells #[.int .u8 (stM x r g 0 : Nat), .int .i64 (mfl x r g 0 0 : Nat), .int .i64 (mfl x r g 0 1 : Nat), .int .i64 (mfl x r g 0 2 : Nat), .int .i64 (v : Nat), .int .i64 (mfl x r g 0 4 : Nat), .slice A0 N0 N0, .int .u8 (stM y r g 1 : Nat), .int .i64 (mfl y r g 1 0 : Nat), .int .i64 (mfl y r g 1 1 : Nat), .int .i64 (mfl y r g 1 2 : Nat), .int .i64 (mfl y r g 1 3 : Nat), .int .i64 (mfl y r g 1 4 : Nat), .slice A1 N1 N1] 220))
 have hk1 : Hid (Ext (w2.alloc (.cells #[.int .u8 (stM x r g 0 : Nat), .int .i64 (mfl x r g 0 0 : Nat), .int .i64 (mfl x r g 0 1 : Nat), .int .i64 (mfl x r g 0 2 : Nat), .int .i64 (v : Nat), .int .i64 (mfl x r g 0 4 : Nat), .slice A0 N0 N0, .int .u8 (stM y r g 1 : Nat), .int .i64 (mfl y r g 1 0 : Nat), .int .i64 (mfl y r g 1 1 : Nat), .int .i64 (mfl y r g 1 2 : Nat), .int .i64 (mfl y r g 1 3 : Nat), .int .i64 (mfl y r g 1 4 : Nat), .slice A1 N1 N1] 220)).drew (w2.alloc (.cells #[.int .u8 (stM x r g 0 : Nat), .int .i64 (mfl x r g 0 0 : Nat), .int .i64 (mfl x r g 0 1 : Nat), .int .i64 (mfl x r g 0 2 : Nat), .int .i64 (v : Nat), .int .i64 (mfl x r g 0 4 : Nat), .slice A0 N0 N0, .int .u8 (stM y r g 1 : Nat), .int .i64 (mfl y r g 1 0 : Nat), .int .i64 (mfl y r g 1 1 : Nat), .int .i64 (mfl y r g 1 2 : Nat), .int .i64 (mfl y r g 1 3 : Nat), .int .i64 (mfl y r g 1 4 : Nat), .slice A1 N1 N1] 220)).drew) := Lib.hid (Ext.refl _)
 go_wp2_with fail
 go_region_held3 (fun w' => w'.cell? ⟨w2.heap.size, 0, none⟩ = some (.int .u8 (stM x r g 0 : Nat)) ∧ w'.cell? ⟨w2.heap.size, 1, none⟩ = some (.int .i64 (mfl x r g 0 0 : Nat)) ∧ w'.cell? ⟨w2.heap.size, 2, none⟩ = some (.int .i64 (mfl x r g 0 1 : Nat)) ∧ w'.cell? ⟨w2.heap.size, 3, none⟩ = some (.int .i64 (mfl x r g 0 2 : Nat)) ∧ w'.cell? ⟨w2.heap.size, 4, none⟩ = some (.int .i64 (v : Nat)) ∧ w'.cell? ⟨w2.heap.size, 5, none⟩ = some (.int .i64 (mfl x r g 0 4 : Nat)) ∧ w'.cell? ⟨w2.heap.size, 6, none⟩ = some (.slice A0 N0 N0) ∧ w'.cell? ⟨w2.heap.size, 7, none⟩ = some (.int .u8 (stM y r g 1 : Nat)) ∧ w'.cell? ⟨w2.heap.size, 8, none⟩ = some (.int .i64 (mfl y r g 1 0 : Nat)) ∧ w'.cell? ⟨w2.heap.size, 9, none⟩ = some (.int .i64 (mfl y r g 1 1 : Nat)) ∧ w'.cell? ⟨w2.heap.size, 10, none⟩ = some (.int .i64 (mfl y r g 1 2 : Nat)) ∧ w'.cell? ⟨w2.heap.size, 11, none⟩ = some (.int .i64 (mfl y r g 1 3 : Nat)) ∧ w'.cell? ⟨w2.heap.size, 12, none⟩ = some (.int .i64 (mfl y r g 1 4 : Nat)) ∧ w'.cell? ⟨w2.heap.size, 13, none⟩ = some (.slice A1 N1 N1))
  (exact cells14 (row_keep (by assumption) HPR))
  (first
   | (go_at_call 156; ((with_reducible refine (other0 _).mono ?_); rintro e w3 ⟨rfl, rfl⟩)))
 go_wp2_with fail
 refine (other1 _).mono ?_
 rintro e w4 ⟨rfl, rfl⟩
 go_wp2_with fail
 refine wp_loop_rounds 3 ?_
 rw [rounds_succ]
 go_wp2_with fail
 have HTR := Lib.hid (tag_row w2 #[.int .u8 (stM x r g 0 : Nat), .int .i64 (mfl x r g 0 0 : Nat), .int .i64 (mfl x r g 0 1 : Nat), .int .i64 (mfl x r g 0 2 : Nat), .int .i64 (v : Nat), .int .i64 (mfl x r g 0 4 : Nat), .slice A0 N0 N0, .int .u8 (stM y r g 1 : Nat), .int .i64 (mfl y r g 1 0 : Nat), .int .i64 (mfl y r g 1 1 : Nat), .int .i64 (mfl y r g 1 2 : Nat), .int .i64 (mfl y r g 1 3 : Nat), .int .i64 (mfl y r g 1 4 : Nat), .slice A1 N1 N1] #[.int .i64 r, .int .i64 g, .int .i64 0, .int .i64 ((v : Int) + 1), .int .i64 c] 220 44)
 have HEA : Hid (Ext w ((w2.alloc (.cells #[.int .u8 (stM x r g 0 : Nat), .int .i64 (mfl x r g 0 0 : Nat), .int .i64 (mfl x r g 0 1 : Nat), .int .i64 (mfl x r g 0 2 : Nat), .int .i64 (v : Nat), .int .i64 (mfl x r g 0 4 : Nat), .slice A0 N0 N0, .int .u8 (stM y r g 1 : Nat), .int .i64 (mfl y r g 1 0 : Nat), .int .i64 (mfl y r g 1 1 : Nat), .int .i64 (mfl y r g 1 2 : Nat), .int .i64 (mfl y r g 1 3 : Nat), .int .i64 (mfl y r g 1 4 : Nat), .slice A1 N1 N1] 220)).alloc (.cells #[.int .i64 r, .int .i64 g, .int .i64 0, .int .i64 ((v : Int) + 1), .int .i64 c] 44)).drew) := Lib.hid (((HX.out.alloc _).alloc _).drew)
 clear hk1
 revert HTR HEA
 generalize ((w2.alloc (.cells #[.int .u8 (stM x r g 0 : Nat), .int .i64 (mfl x r g 0 0 : Nat), .int .i64 (mfl x r g 0 1 : Nat), .int .i64 (mfl x r g 0 2 : Nat), .int .i64 (v : Nat), .int .i64 (mfl x r g 0 4 : Nat), .slice A0 N0 N0, .int .u8 (stM y r g 1 : Nat), .int .i64 (mfl y r g 1 0 : Nat), .int .i64 (mfl y r g 1 1 : Nat), .int .i64 (mfl y r g 1 2 : Nat), .int .i64 (mfl y r g 1 3 : Nat), .int .i64 (mfl y r g 1 4 : Nat), .slice A1 N1 N1] 220)).alloc (.cells #[.int .i64 r, .int .i64 g, .int .i64 0, .int .i64 ((v : Int) + 1), .int .i64 c] 44)).drew = WA
 intro HTR HEA
 have hnf : ¬ F (w2.heap.size + 1) := fun hf => by have h1 := H.out.lt _ hf; have h2 := HX.out.size; omega
 have HPA := Lib.hid (H.out.ext HEA.out)
 have HBA := Lib.hid (HB.out.ext HEA.out)
 have hwl : (m.putC (firstS g 1) (sealC r g 1 (v + 1) c.toNat body)).2.waits.length ≤ m.waits.length + 1 := putC_waits m _ _
 have HQ1 : Hid (m.puts2 r g 1 (v + 1) c.toNat body = if (m.putC (firstS g 1) (sealC r g 1 (v + 1) c.toNat body)).1 ≠ 0 then m.putC (firstS g 1) (sealC r g 1 (v + 1) c.toNat body) else (m.putC (firstS g 1) (sealC r g 1 (v + 1) c.toNat body)).2.putC (firstS g 0) (sealC r g 0 (v + 1) c.toNat body)) := Lib.hid rfl
 have hput := HPUT.out WA F m 1 HPA.out (HL.out.ext HEA.out) HBA.out (by omega) (by omega)
 have hput2 := fun V F' hp hl hb => HPUT.out V F' (m.putC (firstS g 1) (sealC r g 1 (v + 1) c.toNat body)).2 0 hp hl hb (by omega) (by omega)
 obtain ⟨E1, hE1⟩ : ∃ E1, (m.putC (firstS g 1) (sealC r g 1 (v + 1) c.toNat body)).1 = E1 := ⟨_, rfl⟩
 obtain ⟨m1, hm1⟩ : ∃ m1, (m.putC (firstS g 1) (sealC r g 1 (v + 1) c.toNat body)).2 = m1 := ⟨_, rfl⟩
 have hp1 : m.putC (firstS g 1) (sealC r g 1 (v + 1) c.toNat body) = (E1, m1) := by rw [← hE1, ← hm1]
 rw [hE1, hm1] at hput
 rw [hm1] at hput2
 rw [hp1] at HQ1
 have HPUT1 := Lib.hid hput
 have HPUT2 := Lib.hid hput2
 have HNF := Lib.hid hnf
 clear hput hput2 hE1 hm1 hp1 hnf hwl HPUT
 by_cases h0 : E1 = 0
 ·subst h0
  have HQ2 : Hid (R = m1.putC (firstS g 0) (sealC r g 0 (v + 1) c.toNat body)) := Lib.hid (by rw [← HRQ.out, HQ1.out]; simp)
  refine HPUT1.out.mono ?_
  rintro e w5 ⟨rfl, hs⟩
  have HS1 := Lib.hid (Step.pre HEA.out hs)
  have hrow := heap_mod HTR.out hs.2 HNF.out
  have HB5 := Lib.hid (HBA.out.mod0 hs.2 HO.out)
  have HL5 : Hid (LaidF w5) := Lib.hid (HLM.out _ HS1.out.2)
  obtain ⟨⟨c0, c1, c2, c3, c4⟩, _⟩ := five_cells hrow
  clear hs hrow
  go_wp2_with fail
  rw [rounds_succ]
  go_wp2_with fail
  refine (HPUT2.out _ _ HS1.out.1 HL5.out HB5.out).mono ?_
  rintro e w6 ⟨rfl, hs⟩
  have HS2 := Lib.hid (HS1.out.trans hs)
  clear hs c0 c1 c2 c3 c4
  obtain ⟨E2, hE2⟩ : ∃ E2, (m1.putC (firstS g 0) (sealC r g 0 (v + 1) c.toNat body)).1 = E2 := ⟨_, rfl⟩
  rw [hE2]
  have HR2 : Hid (R.1 = E2) := Lib.hid (by rw [HQ2.out, hE2])
  by_cases h0 : E2 = 0
  ·subst h0
   clear hE2
   go_wp2_with fail
   rw [rounds_succ]
   go_wp2_with fail
   go_ret
   exact ⟨by rw [HR2.out]; rfl, by rw [HQ2.out]; exact HS2.out⟩
  ·have hne : (E2 != 0) = true := by simpa using h0
   clear hE2 h0
   go_wp2_with fail
   go_ret
   exact ⟨by rw [HR2.out]; rfl, by rw [HQ2.out]; exact HS2.out⟩
 ·have hne : (E1 != 0) = true := by simpa using h0
  have HQ2 : Hid (R = (E1, m1)) := Lib.hid (by rw [← HRQ.out, HQ1.out, if_pos h0])
  clear h0
  refine HPUT1.out.mono ?_
  rintro e w5 ⟨rfl, hs⟩
  have HS1 := Lib.hid (Step.pre HEA.out hs)
  clear hs
  go_wp2_with fail
  go_ret
  rw [HQ2.out]
  exact ⟨rfl, HS1.out⟩
set_option maxHeartbeats 1600000 in
theorem Store_full1 {w : World} {d : Nat} {F : Nat → Prop} {m : DM} (h : PDisk w d F m) (hL : LaidF w) (r g c : Int) (A : Option Addr) (n cp : Nat)  (hfew : m.waits.length + 1 ≤ 1000000) (hk : knownC m.size r g = 0) (h1 : ¬ c < 1) (h2 : ¬ 1099511627776 < c) (h3 : ¬ 43 < n) (hE : m.loadE r g = 0) (x y : List Nat) (hx : m.cb g 0 = x) (hy : m.cb g 1 = y) (ha : atC r g x y = 1) (hv : mfl y r g 1 3 = 1099511627776) :
 Calls Tryz.prog 77 #[.pointer (some ⟨d, 0, none⟩), .int .i64 r, .int .i64 g, .int .i64 c, .slice A n cp] w fun e w' => e = .returned (.int .i64 4) ∧ Ext w w' := by
 have hc := cknown_of (Sized.of h) hL.a.t r g
 rw [hk] at hc
 have HC := Lib.hid hc
 have hl := fun w' (hq : Ext w w') => load_at (h.ext hq) (hL.ext hq) r g (by omega) (loadE_up hE) x y hx hy 1 (by omega) (Lib.hid ha)
 have hq : (((mfl y r g 1 3 : Nat) : Int) == 1099511627776) = true := by rw [hv]; rfl
 have HLD := Lib.hid hl
 clear h hL hc hk hl hE hfew hx hy ha hv
 go_enter Tryz.func77, Tryz.ntmps77
 go_wp2_with fail
 refine HC.out.mono ?_
 rintro e w1 ⟨rfl, hx⟩
 have HX := Lib.hid hx
 clear hx
 go_wp2_with fail
 refine (room_any 1 _).mono ?_
 rintro e wr ⟨rfl, rfl⟩
 rw [roomN_one]
 go_wp2_with fail
 refine (HLD.out _ HX.out).mono ?_
 rintro e w2 ⟨A0, N0, A1, N1, rfl, hb0, hb1, hx⟩
 have HX := Lib.hid (HX.out.trans hx)
 clear hx hb0 hb1
 have HPR := Lib.hid (heap_alloc_new w2 (.cells #[.int .u8 (stM x r g 0 : Nat), .int .i64 (mfl x r g 0 0 : Nat), .int .i64 (mfl x r g 0 1 : Nat), .int .i64 (mfl x r g 0 2 : Nat), .int .i64 (mfl x r g 0 3 : Nat), .int .i64 (mfl x r g 0 4 : Nat), .slice A0 N0 N0, .int .u8 (stM y r g 1 : Nat), .int .i64 (mfl y r g 1 0 : Nat), .int .i64 (mfl y r g 1 1 : Nat), .int .i64 (mfl y r g 1 2 : Nat), .int .i64 (mfl y r g 1 3 : Nat), .int .i64 (mfl y r g 1 4 : Nat), .slice A1 N1 N1] 220))
 have HPX := Lib.hid ((Ext.refl w2).alloc (.cells #[.int .u8 (stM x r g 0 : Nat), .int .i64 (mfl x r g 0 0 : Nat), .int .i64 (mfl x r g 0 1 : Nat), .int .i64 (mfl x r g 0 2 : Nat), .int .i64 (mfl x r g 0 3 : Nat), .int .i64 (mfl x r g 0 4 : Nat), .slice A0 N0 N0, .int .u8 (stM y r g 1 : Nat), .int .i64 (mfl y r g 1 0 : Nat), .int .i64 (mfl y r g 1 1 : Nat), .int .i64 (mfl y r g 1 2 : Nat), .int .i64 (mfl y r g 1 3 : Nat), .int .i64 (mfl y r g 1 4 : Nat), .slice A1 N1 N1] 220))
 have hk1 : Hid (Ext (w2.alloc (.cells #[.int .u8 (stM x r g 0 : Nat), .int .i64 (mfl x r g 0 0 : Nat), .int .i64 (mfl x r g 0 1 : Nat), .int .i64 (mfl x r g 0 2 : Nat), .int .i64 (mfl x r g 0 3 : Nat), .int .i64 (mfl x r g 0 4 : Nat), .slice A0 N0 N0, .int .u8 (stM y r g 1 : Nat), .int .i64 (mfl y r g 1 0 : Nat), .int .i64 (mfl y r g 1 1 : Nat), .int .i64 (mfl y r g 1 2 : Nat), .int .i64 (mfl y r g 1 3 : Nat), .int .i64 (mfl y r g 1 4 : Nat), .slice A1 N1 N1] 220)).drew (w2.alloc (.cells #[.int .u8 (stM x r g 0 : Nat), .int .i64 (mfl x r g 0 0 : Nat), .int .i64 (mfl x r g 0 1 : Nat), .int .i64 (mfl x r g 0 2 : Nat), .int .i64 (mfl x r g 0 3 : Nat), .int .i64 (mfl x r g 0 4 : Nat), .slice A0 N0 N0, .int .u8 (stM y r g 1 : Nat), .int .i64 (mfl y r g 1 0 : Nat), .int .i64 (mfl y r g 1 1 : Nat), .int .i64 (mfl y r g 1 2 : Nat), .int .i64 (mfl y r g 1 3 : Nat), .int .i64 (mfl y r g 1 4 : Nat), .slice A1 N1 N1] 220)).drew) := Lib.hid (Ext.refl _)
 go_wp2_with fail
 go_region_held3 (fun w' => w'.cell? ⟨w2.heap.size, 0, none⟩ = some (.int .u8 (stM x r g 0 : Nat)) ∧ w'.cell? ⟨w2.heap.size, 1, none⟩ = some (.int .i64 (mfl x r g 0 0 : Nat)) ∧ w'.cell? ⟨w2.heap.size, 2, none⟩ = some (.int .i64 (mfl x r g 0 1 : Nat)) ∧ w'.cell? ⟨w2.heap.size, 3, none⟩ = some (.int .i64 (mfl x r g 0 2 : Nat)) ∧ w'.cell? ⟨w2.heap.size, 4, none⟩ = some (.int .i64 (mfl x r g 0 3 : Nat)) ∧ w'.cell? ⟨w2.heap.size, 5, none⟩ = some (.int .i64 (mfl x r g 0 4 : Nat)) ∧ w'.cell? ⟨w2.heap.size, 6, none⟩ = some (.slice A0 N0 N0) ∧ w'.cell? ⟨w2.heap.size, 7, none⟩ = some (.int .u8 (stM y r g 1 : Nat)) ∧ w'.cell? ⟨w2.heap.size, 8, none⟩ = some (.int .i64 (mfl y r g 1 0 : Nat)) ∧ w'.cell? ⟨w2.heap.size, 9, none⟩ = some (.int .i64 (mfl y r g 1 1 : Nat)) ∧ w'.cell? ⟨w2.heap.size, 10, none⟩ = some (.int .i64 (mfl y r g 1 2 : Nat)) ∧ w'.cell? ⟨w2.heap.size, 11, none⟩ = some (.int .i64 (mfl y r g 1 3 : Nat)) ∧ w'.cell? ⟨w2.heap.size, 12, none⟩ = some (.int .i64 (mfl y r g 1 4 : Nat)) ∧ w'.cell? ⟨w2.heap.size, 13, none⟩ = some (.slice A1 N1 N1))
  (exact cells14 (row_keep (by assumption) HPR))
  (first
   | (go_at_call 156; ((with_reducible refine (other1 _).mono ?_); rintro e w3 ⟨rfl, rfl⟩)))
 go_wp2_with fail
 go_ret
 exact ⟨rfl, by repeat (first | exact HX.out | refine Ext.drew ?_ | refine Ext.alloc ?_ _)⟩
set_option maxHeartbeats 1600000 in
theorem Store_at1 {w : World} {d : Nat} {F : Nat → Prop} {m : DM} (h : PDisk w d F m) (hL : LaidF w) (r g c : Int) (A : Option Addr) (n cp : Nat)  (body : List Nat) (hLM : ∀ V, Mod F w V → LaidF V) (hb : By w A n cp body) (ho : ∀ g o, A = some ⟨g, o, none⟩ → 0 < n → ¬ F g) (hfew : m.waits.length + 2 ≤ 1000000) (hk : knownC m.size r g = 0) (h1 : ¬ c < 1) (h2 : ¬ 1099511627776 < c) (h3 : ¬ 43 < n) (hE : m.loadE r g = 0) (x y : List Nat) (hx : m.cb g 0 = x) (hy : m.cb g 1 = y) (ha : atC r g x y = 1) (v : Nat) (hv : mfl y r g 1 3 = v) (hv2 : v < 1099511627776) :
 Calls Tryz.prog 77 #[.pointer (some ⟨d, 0, none⟩), .int .i64 r, .int .i64 g, .int .i64 c, .slice A n cp] w fun e w' => e = .returned (.int .i64 (m.puts2 r g 0 (v + 1) c.toNat body).1) ∧ Step d F w (m.puts2 r g 0 (v + 1) c.toNat body).2 w' := by
 have hc := cknown_of (Sized.of h) hL.a.t r g
 rw [hk] at hc
 have HC := Lib.hid hc
 have hl := fun w' (hq : Ext w w') => load_at (h.ext hq) (hL.ext hq) r g (by omega) (loadE_up hE) x y hx hy 1 (by omega) (Lib.hid ha)
 have hq : ((v : Int) == 1099511627776) = false := by simp; omega
 have hq1 : IntKind.i64.wrap ((v : Int) + 1) = (v : Int) + 1 := IntWalk.i64_in _ (by omega)
 have hkn := knownC_ok hk
 have H := Lib.hid h
 have HL := Lib.hid hL
 have HB := Lib.hid hb
 have HO := Lib.hid ho
 have HLM := Lib.hid hLM
 obtain ⟨R, hR⟩ : ∃ R, m.puts2 r g 0 (v + 1) c.toNat body = R := ⟨_, rfl⟩
 have HRQ := Lib.hid hR
 rw [hR]
 have hput : ∀ (V : World) (F' : Nat → Prop) (m1 : DM) (q : Int), PDisk V d F' m1 → LaidF V → By V A n cp body → q = 0 ∨ q = 1 → m1.waits.length + 1 ≤ 1000000 → Calls Tryz.prog 158 #[.pointer (some ⟨d, 0, none⟩), .agg #[.int .i64 r, .int .i64 g, .int .i64 0, .int .i64 ((v : Int) + 1), .int .i64 c], .int .i64 q, .slice A n cp] V fun e w' =>
  e = .returned (.int .i64 (m1.putC (firstS g q) (sealC r g q (v + 1) c.toNat body)).1) ∧ Step d F' V (m1.putC (firstS g q) (sealC r g q (v + 1) c.toNat body)).2 w' := fun V F' m1 q hp hl' hb' hq' hw => by
  have := cput_of hp hl' r g 0 ((v : Int) + 1) c q A n cp body hb' (by rw [show (v : Int) + 1 = ((v + 1 : Nat) : Int) by omega]; exact seal_one (may_store hkn.2.2 hkn.2.1 hq' hv2 (by omega)) (by omega)) hw
  unfold sealC
  rw [show ((v + 1 : Nat) : Int) = (v : Int) + 1 by omega, show ((c.toNat : Nat) : Int) = c by omega]
  exact this
 have HPUT := Lib.hid hput
 rw [hv] at hl
 have HLD := Lib.hid hl
 have HNL : Hid (body.length = n) := Lib.hid hb.len
 clear h hL hLM hb ho hc hk hl hE hx hy ha hput hkn hv hR
 have ix0 := fun w => two_index0 0 1 w
 have ix1 := fun w => two_index1 0 1 w
 go_enter Tryz.func77, Tryz.ntmps77
 go_wp2_with fail
 refine HC.out.mono ?_
 rintro e w1 ⟨rfl, hx⟩
 have HX := Lib.hid hx
 clear hx
 go_wp2_with fail
 refine (room_any 1 _).mono ?_
 rintro e wr ⟨rfl, rfl⟩
 rw [roomN_one]
 go_wp2_with fail
 refine (HLD.out _ HX.out).mono ?_
 rintro e w2 ⟨A0, N0, A1, N1, rfl, hb0, hb1, hx⟩
 have HX := Lib.hid (HX.out.trans hx)
 clear hx hb0 hb1
 have HPR := Lib.hid (heap_alloc_new w2 (.cells #[.int .u8 (stM x r g 0 : Nat), .int .i64 (mfl x r g 0 0 : Nat), .int .i64 (mfl x r g 0 1 : Nat), .int .i64 (mfl x r g 0 2 : Nat), .int .i64 (mfl x r g 0 3 : Nat), .int .i64 (mfl x r g 0 4 : Nat), .slice A0 N0 N0, .int .u8 (stM y r g 1 : Nat), .int .i64 (mfl y r g 1 0 : Nat), .int .i64 (mfl y r g 1 1 : Nat), .int .i64 (mfl y r g 1 2 : Nat), .int .i64 (v : Nat), .int .i64 (mfl y r g 1 4 : Nat), .slice A1 N1 N1] 220))
 have HPX := Lib.hid ((Ext.refl w2).alloc (.cells #[.int .u8 (stM x r g 0 : Nat), .int .i64 (mfl x r g 0 0 : Nat), .int .i64 (mfl x r g 0 1 : Nat), .int .i64 (mfl x r g 0 2 : Nat), .int .i64 (mfl x r g 0 3 : Nat), .int .i64 (mfl x r g 0 4 : Nat), .slice A0 N0 N0, .int .u8 (stM y r g 1 : Nat), .int .i64 (mfl y r g 1 0 : Nat), .int .i64 (mfl y r g 1 1 : Nat), .int .i64 (mfl y r g 1 2 : Nat), .int .i64 (v : Nat), .int .i64 (mfl y r g 1 4 : Nat), .slice A1 N1 N1] 220))
 have hk1 : Hid (Ext (w2.alloc (.cells #[.int .u8 (stM x r g 0 : Nat), .int .i64 (mfl x r g 0 0 : Nat), .int .i64 (mfl x r g 0 1 : Nat), .int .i64 (mfl x r g 0 2 : Nat), .int .i64 (mfl x r g 0 3 : Nat), .int .i64 (mfl x r g 0 4 : Nat), .slice A0 N0 N0, .int .u8 (stM y r g 1 : Nat), .int .i64 (mfl y r g 1 0 : Nat), .int .i64 (mfl y r g 1 1 : Nat), .int .i64 (mfl y r g 1 2 : Nat), .int .i64 (v : Nat), .int .i64 (mfl y r g 1 4 : Nat), .slice A1 N1 N1] 220)).drew (w2.alloc (.cells #[.int .u8 (stM x r g 0 : Nat), .int .i64 (mfl x r g 0 0 : Nat), .int .i64 (mfl x r g 0 1 : Nat), .int .i64 (mfl x r g 0 2 : Nat), .int .i64 (mfl x r g 0 3 : Nat), .int .i64 (mfl x r g 0 4 : Nat), .slice A0 N0 N0, .int .u8 (stM y r g 1 : Nat), .int .i64 (mfl y r g 1 0 : Nat), .int .i64 (mfl y r g 1 1 : Nat), .int .i64 (mfl y r g 1 2 : Nat), .int .i64 (v : Nat), .int .i64 (mfl y r g 1 4 : Nat), .slice A1 N1 N1] 220)).drew) := Lib.hid (Ext.refl _)
 go_wp2_with fail
 go_region_held3 (fun w' => w'.cell? ⟨w2.heap.size, 0, none⟩ = some (.int .u8 (stM x r g 0 : Nat)) ∧ w'.cell? ⟨w2.heap.size, 1, none⟩ = some (.int .i64 (mfl x r g 0 0 : Nat)) ∧ w'.cell? ⟨w2.heap.size, 2, none⟩ = some (.int .i64 (mfl x r g 0 1 : Nat)) ∧ w'.cell? ⟨w2.heap.size, 3, none⟩ = some (.int .i64 (mfl x r g 0 2 : Nat)) ∧ w'.cell? ⟨w2.heap.size, 4, none⟩ = some (.int .i64 (mfl x r g 0 3 : Nat)) ∧ w'.cell? ⟨w2.heap.size, 5, none⟩ = some (.int .i64 (mfl x r g 0 4 : Nat)) ∧ w'.cell? ⟨w2.heap.size, 6, none⟩ = some (.slice A0 N0 N0) ∧ w'.cell? ⟨w2.heap.size, 7, none⟩ = some (.int .u8 (stM y r g 1 : Nat)) ∧ w'.cell? ⟨w2.heap.size, 8, none⟩ = some (.int .i64 (mfl y r g 1 0 : Nat)) ∧ w'.cell? ⟨w2.heap.size, 9, none⟩ = some (.int .i64 (mfl y r g 1 1 : Nat)) ∧ w'.cell? ⟨w2.heap.size, 10, none⟩ = some (.int .i64 (mfl y r g 1 2 : Nat)) ∧ w'.cell? ⟨w2.heap.size, 11, none⟩ = some (.int .i64 (v : Nat)) ∧ w'.cell? ⟨w2.heap.size, 12, none⟩ = some (.int .i64 (mfl y r g 1 4 : Nat)) ∧ w'.cell? ⟨w2.heap.size, 13, none⟩ = some (.slice A1 N1 N1))
  (exact cells14 (row_keep (by assumption) HPR))
  (first
   | (go_at_call 156; ((with_reducible refine (other1 _).mono ?_); rintro e w3 ⟨rfl, rfl⟩)))
 go_wp2_with fail
 refine (other0 _).mono ?_
 rintro e w4 ⟨rfl, rfl⟩
 go_wp2_with fail
 refine wp_loop_rounds 3 ?_
 rw [rounds_succ]
 go_wp2_with fail
 have HTR := Lib.hid (tag_row w2 #[.int .u8 (stM x r g 0 : Nat), .int .i64 (mfl x r g 0 0 : Nat), .int .i64 (mfl x r g 0 1 : Nat), .int .i64 (mfl x r g 0 2 : Nat), .int .i64 (mfl x r g 0 3 : Nat), .int .i64 (mfl x r g 0 4 : Nat), .slice A0 N0 N0, .int .u8 (stM y r g 1 : Nat), .int .i64 (mfl y r g 1 0 : Nat), .int .i64 (mfl y r g 1 1 : Nat), .int .i64 (mfl y r g 1 2 : Nat), .int .i64 (v : Nat), .int .i64 (mfl y r g 1 4 : Nat), .slice A1 N1 N1] #[.int .i64 r, .int .i64 g, .int .i64 0, .int .i64 ((v : Int) + 1), .int .i64 c] 220 44)
 have HEA : Hid (Ext w ((w2.alloc (.cells #[.int .u8 (stM x r g 0 : Nat), .int .i64 (mfl x r g 0 0 : Nat), .int .i64 (mfl x r g 0 1 : Nat), .int .i64 (mfl x r g 0 2 : Nat), .int .i64 (mfl x r g 0 3 : Nat), .int .i64 (mfl x r g 0 4 : Nat), .slice A0 N0 N0, .int .u8 (stM y r g 1 : Nat), .int .i64 (mfl y r g 1 0 : Nat), .int .i64 (mfl y r g 1 1 : Nat), .int .i64 (mfl y r g 1 2 : Nat), .int .i64 (v : Nat), .int .i64 (mfl y r g 1 4 : Nat), .slice A1 N1 N1] 220)).alloc (.cells #[.int .i64 r, .int .i64 g, .int .i64 0, .int .i64 ((v : Int) + 1), .int .i64 c] 44)).drew) := Lib.hid (((HX.out.alloc _).alloc _).drew)
 clear hk1
 revert HTR HEA
 generalize ((w2.alloc (.cells #[.int .u8 (stM x r g 0 : Nat), .int .i64 (mfl x r g 0 0 : Nat), .int .i64 (mfl x r g 0 1 : Nat), .int .i64 (mfl x r g 0 2 : Nat), .int .i64 (mfl x r g 0 3 : Nat), .int .i64 (mfl x r g 0 4 : Nat), .slice A0 N0 N0, .int .u8 (stM y r g 1 : Nat), .int .i64 (mfl y r g 1 0 : Nat), .int .i64 (mfl y r g 1 1 : Nat), .int .i64 (mfl y r g 1 2 : Nat), .int .i64 (v : Nat), .int .i64 (mfl y r g 1 4 : Nat), .slice A1 N1 N1] 220)).alloc (.cells #[.int .i64 r, .int .i64 g, .int .i64 0, .int .i64 ((v : Int) + 1), .int .i64 c] 44)).drew = WA
 intro HTR HEA
 have hnf : ¬ F (w2.heap.size + 1) := fun hf => by have h1 := H.out.lt _ hf; have h2 := HX.out.size; omega
 have HPA := Lib.hid (H.out.ext HEA.out)
 have HBA := Lib.hid (HB.out.ext HEA.out)
 have hwl : (m.putC (firstS g 0) (sealC r g 0 (v + 1) c.toNat body)).2.waits.length ≤ m.waits.length + 1 := putC_waits m _ _
 have HQ1 : Hid (m.puts2 r g 0 (v + 1) c.toNat body = if (m.putC (firstS g 0) (sealC r g 0 (v + 1) c.toNat body)).1 ≠ 0 then m.putC (firstS g 0) (sealC r g 0 (v + 1) c.toNat body) else (m.putC (firstS g 0) (sealC r g 0 (v + 1) c.toNat body)).2.putC (firstS g 1) (sealC r g 1 (v + 1) c.toNat body)) := Lib.hid rfl
 have hput := HPUT.out WA F m 0 HPA.out (HL.out.ext HEA.out) HBA.out (by omega) (by omega)
 have hput2 := fun V F' hp hl hb => HPUT.out V F' (m.putC (firstS g 0) (sealC r g 0 (v + 1) c.toNat body)).2 1 hp hl hb (by omega) (by omega)
 obtain ⟨E1, hE1⟩ : ∃ E1, (m.putC (firstS g 0) (sealC r g 0 (v + 1) c.toNat body)).1 = E1 := ⟨_, rfl⟩
 obtain ⟨m1, hm1⟩ : ∃ m1, (m.putC (firstS g 0) (sealC r g 0 (v + 1) c.toNat body)).2 = m1 := ⟨_, rfl⟩
 have hp1 : m.putC (firstS g 0) (sealC r g 0 (v + 1) c.toNat body) = (E1, m1) := by rw [← hE1, ← hm1]
 rw [hE1, hm1] at hput
 rw [hm1] at hput2
 rw [hp1] at HQ1
 have HPUT1 := Lib.hid hput
 have HPUT2 := Lib.hid hput2
 have HNF := Lib.hid hnf
 clear hput hput2 hE1 hm1 hp1 hnf hwl HPUT
 by_cases h0 : E1 = 0
 ·subst h0
  have HQ2 : Hid (R = m1.putC (firstS g 1) (sealC r g 1 (v + 1) c.toNat body)) := Lib.hid (by rw [← HRQ.out, HQ1.out]; simp)
  refine HPUT1.out.mono ?_
  rintro e w5 ⟨rfl, hs⟩
  have HS1 := Lib.hid (Step.pre HEA.out hs)
  have hrow := heap_mod HTR.out hs.2 HNF.out
  have HB5 := Lib.hid (HBA.out.mod0 hs.2 HO.out)
  have HL5 : Hid (LaidF w5) := Lib.hid (HLM.out _ HS1.out.2)
  obtain ⟨⟨c0, c1, c2, c3, c4⟩, _⟩ := five_cells hrow
  clear hs hrow
  go_wp2_with fail
  rw [rounds_succ]
  go_wp2_with fail
  refine (HPUT2.out _ _ HS1.out.1 HL5.out HB5.out).mono ?_
  rintro e w6 ⟨rfl, hs⟩
  have HS2 := Lib.hid (HS1.out.trans hs)
  clear hs c0 c1 c2 c3 c4
  obtain ⟨E2, hE2⟩ : ∃ E2, (m1.putC (firstS g 1) (sealC r g 1 (v + 1) c.toNat body)).1 = E2 := ⟨_, rfl⟩
  rw [hE2]
  have HR2 : Hid (R.1 = E2) := Lib.hid (by rw [HQ2.out, hE2])
  by_cases h0 : E2 = 0
  ·subst h0
   clear hE2
   go_wp2_with fail
   rw [rounds_succ]
   go_wp2_with fail
   go_ret
   exact ⟨by rw [HR2.out]; rfl, by rw [HQ2.out]; exact HS2.out⟩
  ·have hne : (E2 != 0) = true := by simpa using h0
   clear hE2 h0
   go_wp2_with fail
   go_ret
   exact ⟨by rw [HR2.out]; rfl, by rw [HQ2.out]; exact HS2.out⟩
 ·have hne : (E1 != 0) = true := by simpa using h0
  have HQ2 : Hid (R = (E1, m1)) := Lib.hid (by rw [← HRQ.out, HQ1.out, if_pos h0])
  clear h0
  refine HPUT1.out.mono ?_
  rintro e w5 ⟨rfl, hs⟩
  have HS1 := Lib.hid (Step.pre HEA.out hs)
  clear hs
  go_wp2_with fail
  go_ret
  rw [HQ2.out]
  exact ⟨rfl, HS1.out⟩
set_option maxHeartbeats 1600000 in
theorem Store_none {w : World} {d : Nat} {F : Nat → Prop} {m : DM} (h : PDisk w d F m) (hL : LaidF w) (r g c : Int) (A : Option Addr) (n cp : Nat)  (body : List Nat) (hLM : ∀ V, Mod F w V → LaidF V) (hb : By w A n cp body) (ho : ∀ g o, A = some ⟨g, o, none⟩ → 0 < n → ¬ F g) (hfew : m.waits.length + 2 ≤ 1000000) (hk : knownC m.size r g = 0) (h1 : ¬ c < 1) (h2 : ¬ 1099511627776 < c) (h3 : ¬ 43 < n) (hE : m.loadE r g = 0) (ha : atC r g (m.cb g 0) (m.cb g 1) = -1) :
 Calls Tryz.prog 77 #[.pointer (some ⟨d, 0, none⟩), .int .i64 r, .int .i64 g, .int .i64 c, .slice A n cp] w fun e w' => e = .returned (.int .i64 (m.puts2 r g 0 (0 + 1) c.toNat body).1) ∧ Step d F w (m.puts2 r g 0 (0 + 1) c.toNat body).2 w' := by
 have hc := cknown_of (Sized.of h) hL.a.t r g
 rw [hk] at hc
 have HC := Lib.hid hc
 have hl := fun w' (hq : Ext w w') => load_none (h.ext hq) (hL.ext hq) r g (by omega) hE ha
 have hkn := knownC_ok hk
 have H := Lib.hid h
 have HL := Lib.hid hL
 have HB := Lib.hid hb
 have HO := Lib.hid ho
 have HLM := Lib.hid hLM
 obtain ⟨R, hR⟩ : ∃ R, m.puts2 r g 0 (0 + 1) c.toNat body = R := ⟨_, rfl⟩
 have HRQ := Lib.hid hR
 rw [hR]
 have hput : ∀ (V : World) (F' : Nat → Prop) (m1 : DM) (q : Int), PDisk V d F' m1 → LaidF V → By V A n cp body → q = 0 ∨ q = 1 → m1.waits.length + 1 ≤ 1000000 → Calls Tryz.prog 158 #[.pointer (some ⟨d, 0, none⟩), .agg #[.int .i64 r, .int .i64 g, .int .i64 0, .int .i64 1, .int .i64 c], .int .i64 q, .slice A n cp] V fun e w' =>
  e = .returned (.int .i64 (m1.putC (firstS g q) (sealC r g q (0 + 1) c.toNat body)).1) ∧ Step d F' V (m1.putC (firstS g q) (sealC r g q (0 + 1) c.toNat body)).2 w' := fun V F' m1 q hp hl' hb' hq' hw => by
  have := cput_of hp hl' r g 0 1 c q A n cp body hb' (by exact seal_one (may_store (v := 0) hkn.2.2 hkn.2.1 hq' (by omega) (by omega)) (by omega)) hw
  unfold sealC
  rw [show ((0 + 1 : Nat) : Int) = 1 from rfl, show ((c.toNat : Nat) : Int) = c by omega]
  exact this
 have HPUT := Lib.hid hput
 have HLD := Lib.hid hl
 have HNL : Hid (body.length = n) := Lib.hid hb.len
 clear h hL hLM hb ho hc hk hl hE ha hput hkn hR
 have ix0 := fun w => two_index0 0 1 w
 have ix1 := fun w => two_index1 0 1 w
 go_enter Tryz.func77, Tryz.ntmps77
 go_wp2_with fail
 refine HC.out.mono ?_
 rintro e w1 ⟨rfl, hx⟩
 have HX := Lib.hid hx
 clear hx
 go_wp2_with fail
 refine (room_any 1 _).mono ?_
 rintro e wr ⟨rfl, rfl⟩
 rw [roomN_one]
 go_wp2_with fail
 refine (HLD.out _ HX.out).mono ?_
 rintro e w2 ⟨⟨s0, a0, b0, c0, d0, e0, s1, a1, b1, c1, d1, e1, A0, A1, n0, m0, n1, m1, rfl⟩, hx⟩
 have HX := Lib.hid (HX.out.trans hx)
 have hk1 : True := trivial
 clear hx
 go_wp2_with fail
 refine (other0 _).mono ?_
 rintro e w4 ⟨rfl, rfl⟩
 go_wp2_with fail
 refine wp_loop_rounds 3 ?_
 rw [rounds_succ]
 go_wp2_with fail
 have HTR := Lib.hid (tag_row0 w2 #[.int .u8 s0, .int .i64 a0, .int .i64 b0, .int .i64 c0, .int .i64 d0, .int .i64 e0, .slice A0 n0 m0, .int .u8 s1, .int .i64 a1, .int .i64 b1, .int .i64 c1, .int .i64 d1, .int .i64 e1, .slice A1 n1 m1] #[.int .i64 r, .int .i64 g, .int .i64 0, .int .i64 1, .int .i64 c] 220 44)
 have HEA : Hid (Ext w ((w2.alloc (.cells #[.int .u8 s0, .int .i64 a0, .int .i64 b0, .int .i64 c0, .int .i64 d0, .int .i64 e0, .slice A0 n0 m0, .int .u8 s1, .int .i64 a1, .int .i64 b1, .int .i64 c1, .int .i64 d1, .int .i64 e1, .slice A1 n1 m1] 220)).alloc (.cells #[.int .i64 r, .int .i64 g, .int .i64 0, .int .i64 1, .int .i64 c] 44))) := Lib.hid ((HX.out.alloc _).alloc _)
 clear hk1
 revert HTR HEA
 generalize ((w2.alloc (.cells #[.int .u8 s0, .int .i64 a0, .int .i64 b0, .int .i64 c0, .int .i64 d0, .int .i64 e0, .slice A0 n0 m0, .int .u8 s1, .int .i64 a1, .int .i64 b1, .int .i64 c1, .int .i64 d1, .int .i64 e1, .slice A1 n1 m1] 220)).alloc (.cells #[.int .i64 r, .int .i64 g, .int .i64 0, .int .i64 1, .int .i64 c] 44)) = WA
 intro HTR HEA
 have hnf : ¬ F (w2.heap.size + 1) := fun hf => by have h1 := H.out.lt _ hf; have h2 := HX.out.size; omega
 have HPA := Lib.hid (H.out.ext HEA.out)
 have HBA := Lib.hid (HB.out.ext HEA.out)
 have hwl : (m.putC (firstS g 0) (sealC r g 0 (0 + 1) c.toNat body)).2.waits.length ≤ m.waits.length + 1 := putC_waits m _ _
 have HQ1 : Hid (m.puts2 r g 0 (0 + 1) c.toNat body = if (m.putC (firstS g 0) (sealC r g 0 (0 + 1) c.toNat body)).1 ≠ 0 then m.putC (firstS g 0) (sealC r g 0 (0 + 1) c.toNat body) else (m.putC (firstS g 0) (sealC r g 0 (0 + 1) c.toNat body)).2.putC (firstS g 1) (sealC r g 1 (0 + 1) c.toNat body)) := Lib.hid rfl
 have hput := HPUT.out WA F m 0 HPA.out (HL.out.ext HEA.out) HBA.out (by omega) (by omega)
 have hput2 := fun V F' hp hl hb => HPUT.out V F' (m.putC (firstS g 0) (sealC r g 0 (0 + 1) c.toNat body)).2 1 hp hl hb (by omega) (by omega)
 obtain ⟨E1, hE1⟩ : ∃ E1, (m.putC (firstS g 0) (sealC r g 0 (0 + 1) c.toNat body)).1 = E1 := ⟨_, rfl⟩
 obtain ⟨mm, hm1⟩ : ∃ mm, (m.putC (firstS g 0) (sealC r g 0 (0 + 1) c.toNat body)).2 = mm := ⟨_, rfl⟩
 have hp1 : m.putC (firstS g 0) (sealC r g 0 (0 + 1) c.toNat body) = (E1, mm) := by rw [← hE1, ← hm1]
 rw [hE1, hm1] at hput
 rw [hm1] at hput2
 rw [hp1] at HQ1
 have HPUT1 := Lib.hid hput
 have HPUT2 := Lib.hid hput2
 have HNF := Lib.hid hnf
 clear hput hput2 hE1 hm1 hp1 hnf hwl HPUT
 by_cases h0 : E1 = 0
 ·subst h0
  have HQ2 : Hid (R = mm.putC (firstS g 1) (sealC r g 1 (0 + 1) c.toNat body)) := Lib.hid (by rw [← HRQ.out, HQ1.out]; simp)
  refine HPUT1.out.mono ?_
  rintro e w5 ⟨rfl, hs⟩
  have HS1 := Lib.hid (Step.pre HEA.out hs)
  have hrow := heap_mod HTR.out hs.2 HNF.out
  have HB5 := Lib.hid (HBA.out.mod0 hs.2 HO.out)
  have HL5 : Hid (LaidF w5) := Lib.hid (HLM.out _ HS1.out.2)
  obtain ⟨⟨k0, k1, k2, k3, k4⟩, _⟩ := five_cells hrow
  clear hs hrow
  go_wp2_with fail
  rw [rounds_succ]
  go_wp2_with fail
  refine (HPUT2.out _ _ HS1.out.1 HL5.out HB5.out).mono ?_
  rintro e w6 ⟨rfl, hs⟩
  have HS2 := Lib.hid (HS1.out.trans hs)
  clear hs k0 k1 k2 k3 k4
  obtain ⟨E2, hE2⟩ : ∃ E2, (mm.putC (firstS g 1) (sealC r g 1 (0 + 1) c.toNat body)).1 = E2 := ⟨_, rfl⟩
  rw [hE2]
  have HR2 : Hid (R.1 = E2) := Lib.hid (by rw [HQ2.out, hE2])
  by_cases h0 : E2 = 0
  ·subst h0
   clear hE2
   go_wp2_with fail
   rw [rounds_succ]
   go_wp2_with fail
   go_ret
   exact ⟨by rw [HR2.out]; rfl, by rw [HQ2.out]; exact HS2.out⟩
  ·have hne : (E2 != 0) = true := by simpa using h0
   clear hE2 h0
   go_wp2_with fail
   go_ret
   exact ⟨by rw [HR2.out]; rfl, by rw [HQ2.out]; exact HS2.out⟩
 ·have hne : (E1 != 0) = true := by simpa using h0
  have HQ2 : Hid (R = (E1, mm)) := Lib.hid (by rw [← HRQ.out, HQ1.out, if_pos h0])
  clear h0
  refine HPUT1.out.mono ?_
  rintro e w5 ⟨rfl, hs⟩
  have HS1 := Lib.hid (Step.pre HEA.out hs)
  clear hs
  go_wp2_with fail
  go_ret
  rw [HQ2.out]
  exact ⟨rfl, HS1.out⟩
theorem Store_of {w : World} {d : Nat} {F : Nat → Prop} {m : DM} (h : PDisk w d F m) (hL : LaidF w) (hLM : ∀ V, Mod F w V → LaidF V) (r g c : Int) (A : Option Addr) (n cp : Nat) (body : List Nat) (hb : By w A n cp body) (ho : ∀ g o, A = some ⟨g, o, none⟩ → 0 < n → ¬ F g) (hfew : m.waits.length + 2 ≤ 1000000) (hk : knownC m.size r g = 0) :
 Calls Tryz.prog 77 #[.pointer (some ⟨d, 0, none⟩), .int .i64 r, .int .i64 g, .int .i64 c, .slice A n cp] w fun e w' => e = .returned (.int .i64 (m.store r g c body).1) ∧ Step d F w (m.store r g c body).2 w' := by
 have hlen : body.length = n := hb.len
 have stay : ∀ E, m.store r g c body = (E, m) → (Calls Tryz.prog 77 #[.pointer (some ⟨d, 0, none⟩), .int .i64 r, .int .i64 g, .int .i64 c, .slice A n cp] w fun e w' => e = .returned (.int .i64 E) ∧ Ext w w') → Calls Tryz.prog 77 #[.pointer (some ⟨d, 0, none⟩), .int .i64 r, .int .i64 g, .int .i64 c, .slice A n cp] w fun e w' => e = .returned (.int .i64 (m.store r g c body).1) ∧ Step d F w (m.store r g c body).2 w' := fun E hs hc => by
  rw [hs]
  exact hc.mono fun e w' ⟨h1, h2⟩ => ⟨h1, Step.of_ext h h2⟩
 have put : m.storeE r g c body.length ≠ 0 → m.store r g c body = (m.storeE r g c body.length, m) := fun hh => by unfold DM.store; rw [if_pos hh]
 have go : m.storeE r g c body.length = 0 → m.store r g c body = m.puts2 r g (firstP r g (m.cb g 0) (m.cb g 1)) (m.loadV r g + 1) c.toNat body := fun hh => by unfold DM.store; rw [if_neg (by rw [hh]; simp)]
 by_cases h1 : c < 1 ∨ 1099511627776 < c
 ·have hE : m.storeE r g c body.length = 2 := by unfold DM.storeE; rw [if_pos h1]
  rw [hE] at put
  exact stay 2 (put (by omega)) (Store_arg h hL r g c A n cp hk h1)
 have h11 : ¬ c < 1 := by omega
 have h12 : ¬ 1099511627776 < c := by omega
 by_cases h3 : 43 < n
 ·have hE : m.storeE r g c body.length = 3 := by unfold DM.storeE; rw [if_neg h1, if_pos (by omega)]
  rw [hE] at put
  exact stay 3 (put (by omega)) (Store_long h hL r g c A n cp hk h11 h12 h3)
 by_cases hE : m.loadE r g = 0
 ·have hv := loadV_most h.ok r g
  by_cases hf : m.loadV r g = 1099511627776
  ·have hE2 : m.storeE r g c body.length = 4 := by unfold DM.storeE; rw [if_neg h1, if_neg (by omega), if_neg (by rw [hE]; simp), if_pos hf]
   rw [hE2] at put
   rcases atC_cases r g (m.cb g 0) (m.cb g 1) with ha | ha | ha
   ·have hv0 : mfl (m.cb g 0) r g 0 3 = 1099511627776 := by rw [← hf]; unfold DM.loadV cellF; rw [if_pos hE, ha]; simp
    exact stay 4 (put (by omega)) (Store_full0 h hL r g c A n cp (by omega) hk h11 h12 h3 hE _ _ rfl rfl ha hv0)
   ·have hv0 : mfl (m.cb g 1) r g 1 3 = 1099511627776 := by rw [← hf]; unfold DM.loadV cellF; rw [if_pos hE, ha]; simp
    exact stay 4 (put (by omega)) (Store_full1 h hL r g c A n cp (by omega) hk h11 h12 h3 hE _ _ rfl rfl ha hv0)
   ·have : m.loadV r g = 0 := by unfold DM.loadV cellF; rw [if_pos hE, ha]; simp
    omega
  ·have hE2 : m.storeE r g c body.length = 0 := by unfold DM.storeE; rw [if_neg h1, if_neg (by omega), if_neg (by rw [hE]; simp), if_neg hf]
   rw [go hE2]
   rcases atC_cases r g (m.cb g 0) (m.cb g 1) with ha | ha | ha
   ·have hv0 : mfl (m.cb g 0) r g 0 3 = m.loadV r g := by unfold DM.loadV cellF; rw [if_pos hE, ha]; simp
    have hfp : firstP r g (m.cb g 0) (m.cb g 1) = 1 := by unfold firstP; rw [if_pos ha]
    rw [hfp]
    exact Store_at0 h hL r g c A n cp body hLM hb ho hfew hk h11 h12 h3 hE _ _ rfl rfl ha _ hv0 (by omega)
   ·have hv0 : mfl (m.cb g 1) r g 1 3 = m.loadV r g := by unfold DM.loadV cellF; rw [if_pos hE, ha]; simp
    have hfp : firstP r g (m.cb g 0) (m.cb g 1) = 0 := by unfold firstP; rw [if_neg (by rw [ha]; omega)]
    rw [hfp]
    exact Store_at1 h hL r g c A n cp body hLM hb ho hfew hk h11 h12 h3 hE _ _ rfl rfl ha _ hv0 (by omega)
   ·have hv0 : m.loadV r g = 0 := by unfold DM.loadV cellF; rw [if_pos hE, ha]; simp
    have hfp : firstP r g (m.cb g 0) (m.cb g 1) = 0 := by unfold firstP; rw [if_neg (by rw [ha]; omega)]
    rw [hfp, hv0]
    exact Store_none h hL r g c A n cp body hLM hb ho hfew hk h11 h12 h3 hE ha
 ·have hE2 : m.storeE r g c body.length = m.loadE r g := by unfold DM.storeE; rw [if_neg h1, if_neg (by omega), if_pos hE]
  rw [hE2] at put
  exact stay _ (put hE) (Store_fail h hL r g c A n cp (by omega) hk h11 h12 h3 _ rfl hE)
end
end Go.Proofs.YtmpaocpgoihliaaGreatDoor
