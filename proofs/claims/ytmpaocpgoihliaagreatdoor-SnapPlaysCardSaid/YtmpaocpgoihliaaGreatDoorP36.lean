/-
  The contract of the document's shelf's Open.
-/
import Derived.Test.YtmpaocpgoihliaaGreatDoorP00
import Derived.Test.YtmpaocpgoihliaaGreatDoorP07
import Derived.Test.YtmpaocpgoihliaaGreatDoorP27
import Derived.Test.YtmpaocpgoihliaaGreatDoorP30
import Derived.Test.YtmpaocpgoihliaaGreatDoorP35
namespace Go.Proofs.YtmpaocpgoihliaaGreatDoor
set_option maxRecDepth 100000
section
open Go Go.RowKit
def ROpn (w : World) (d y : Nat) (r inc : Int) (p : Nat → Nat) (m' : DM) (s' : ShM) (w' : World) : Prop :=
 w.heap.size ≤ y ∧ ∃ p', RD w' d p' m' ∧ (∀ k, p' k ≠ 0 → p k ≠ 0 ∨ w.heap.size ≤ k) ∧ Mod (fun k => p k ≠ 0) w w' ∧ RShAt w' y d r inc s' ∧ p' y = 0
section
variable {w : World} {d : Nat} {p : Nat → Nat} {m : DM}
set_option maxHeartbeats 800000 in
theorem rsopen_arg (hd : RD w d p m) (hsz : m.size = 156) (r c : Int) (hno : ¬ ((0 ≤ r ∧ r ≤ 6) ∧ (1 ≤ c ∧ c ≤ 1099511627776))) :
 Calls Tryz.prog 24 #[.pointer (some ⟨d, 0, none⟩), .int .i64 r, .int .i64 c] w fun e w' => e = .returned (.tuple #[.pointer none, .int .i64 2]) ∧ w = w' := by
 obtain ⟨g, gc, d0, _, _⟩ := rd_heads hd
 rw [hsz] at d0
 clear hd hsz
 by_cases h1 : r < 0
 ·clear hno
  go_enter Tryz.func24, Tryz.ntmps24
  go_wp2_with fail
  refine bodyPost_ret (v := .tuple #[.pointer none, .int .i64 2]) (by simp [results, Tryz.results24, go_sem]) rfl ⟨rfl, rfl⟩
 have h1 : 0 ≤ r := by omega
 by_cases h2 : 6 < r
 ·clear hno
  go_enter Tryz.func24, Tryz.ntmps24
  go_wp2_with fail
  refine bodyPost_ret (v := .tuple #[.pointer none, .int .i64 2]) (by simp [results, Tryz.results24, go_sem]) rfl ⟨rfl, rfl⟩
 have h2 : r ≤ 6 := by omega
 by_cases h3 : c < 1
 ·clear hno
  go_enter Tryz.func24, Tryz.ntmps24
  go_wp2_with fail
  refine bodyPost_ret (v := .tuple #[.pointer none, .int .i64 2]) (by simp [results, Tryz.results24, go_sem]) rfl ⟨rfl, rfl⟩
 have h3 : 1 ≤ c := by omega
 have h4 : 1099511627776 < c := by omega
 clear hno
 go_enter Tryz.func24, Tryz.ntmps24
 go_wp2_with fail
 refine bodyPost_ret (v := .tuple #[.pointer none, .int .i64 2]) (by simp [results, Tryz.results24, go_sem]) rfl ⟨rfl, rfl⟩
set_option maxHeartbeats 800000 in
theorem rsopen_err (hd : RD w d p m) (hsz : m.size = 156) (r c : Int) (hr : 0 ≤ r ∧ r ≤ 6) (hc : 1 ≤ c ∧ c ≤ 1099511627776) (hfew : m.waits.length + 1 ≤ 1000000) (hE : m.loadE r 2 ≠ 0) :
 Calls Tryz.prog 24 #[.pointer (some ⟨d, 0, none⟩), .int .i64 r, .int .i64 c] w fun e w' => e = .returned (.tuple #[.pointer none, .int .i64 (m.loadE r 2)]) ∧ Ext w w' := by
 obtain ⟨g, gc, d0, _, _⟩ := rd_heads hd
 rw [hsz] at d0
 obtain ⟨h1, h2⟩ := hr
 obtain ⟨h3, h4⟩ := hc
 have HLD := Lib.hid (rload_of hd r 2 (by omega) (knownY ⟨h1, h2⟩ hsz))
 generalize m.loadE r 2 = E at *
 have hne : (E != 0) = true := by simpa using hE
 clear hd hsz hfew hE
 go_enter Tryz.func24, Tryz.ntmps24
 go_wp2_with fail
 refine HLD.out.mono ?_
 rintro e w1 ⟨A, n, cc, rfl, _, hx⟩
 have HX := Lib.hid hx
 clear hx
 go_wp2_with fail
 refine bodyPost_ret (v := .tuple #[.pointer none, .int .i64 E]) (by simp [results, Tryz.results24, go_sem]) rfl ⟨rfl, HX.out⟩
set_option maxHeartbeats 1600000 in
theorem rsopen_none (hd : RD w d p m) (hsz : m.size = 156) (r c : Int) (hr : 0 ≤ r ∧ r ≤ 6) (hc : 1 ≤ c ∧ c ≤ 1099511627776) (hfew : m.waits.length + 1 ≤ 1000000) (hE : m.loadE r 2 = 0) (hV : m.loadV r 2 = 0) :
 Calls Tryz.prog 24 #[.pointer (some ⟨d, 0, none⟩), .int .i64 r, .int .i64 c] w fun e w' =>
  ((m.heal r 2).1 ≠ 0 ∧ e = .returned (.tuple #[.pointer none, .int .i64 (m.heal r 2).1]) ∧ ROut d p w (m.heal r 2).2 w') ∨ ((m.heal r 2).1 = 0 ∧ ∃ y, e = .returned (.tuple #[.pointer (some ⟨y, 0, none⟩), .int .i64 0]) ∧ ROpn w d y r c p (m.heal r 2).2 {} w') := by
 obtain ⟨g, gc, d0, _, _⟩ := rd_heads hd
 rw [hsz] at d0
 obtain ⟨h1, h2⟩ := hr
 obtain ⟨h3, h4⟩ := hc
 have hld := rload_of hd r 2 (by omega) (knownY ⟨h1, h2⟩ hsz)
 rw [hE, hV] at hld
 have HLD := Lib.hid hld
 have HHL := Lib.hid (fun (V : World) (hV : Ext w V) => rheal_of (hd.ext hV) r 2 hfew (knownY ⟨h1, h2⟩ hsz))
 have HD := Lib.hid hd
 generalize m.heal r 2 = X at *
 obtain ⟨E5, m5⟩ := X
 clear hd hsz hfew hE hV hld
 go_enter Tryz.func24, Tryz.ntmps24
 go_wp2_with fail
 refine HLD.out.mono ?_
 rintro e w1 ⟨A, n, cc, rfl, _, hx⟩
 have HX := Lib.hid hx
 clear hx
 go_upto_region 15 with (fail)
 have hz := heap_alloc_new w1 (.cells #[.pointer (some ⟨d, 0, none⟩), .int .i64 r, .int .i64 c, .int .i64 0, .int .i64 0, .int .i64 0] 146)
 have hE4 := (Ext.refl w1).alloc (.cells #[.pointer (some ⟨d, 0, none⟩), .int .i64 r, .int .i64 c, .int .i64 0, .int .i64 0, .int .i64 0] 146)
 generalize (w1.alloc (.cells #[.pointer (some ⟨d, 0, none⟩), .int .i64 r, .int .i64 c, .int .i64 0, .int .i64 0, .int .i64 0] 146)) = w2 at *
 have HY : Hid (RShAt w2 w1.heap.size d r c {} ∧ w.heap.size ≤ w1.heap.size) := Lib.hid ⟨⟨hz⟩, HX.out.size⟩
 have HX2 : Hid (Ext w w2) := Lib.hid (HX.out.trans hE4)
 obtain ⟨y, hy⟩ : ∃ y, w1.heap.size = y := ⟨_, rfl⟩
 rw [hy] at HY ⊢
 clear hz hE4 hy
 go_wp2_with fail
 refine (HHL.out w2 HX2.out).mono ?_
 rintro e w3 ⟨rfl, hs⟩
 obtain ⟨q, HR, hsub, hm⟩ := ((RQ.start HD.out).ext HX2.out).out hs
 have HK := Lib.hid (And.intro HR (And.intro hsub hm))
 clear hs HR hsub hm
 have hpy : p y = 0 := part_none HD.out HY.out.2
 have HSH : Hid (RShAt w3 y d r c {} ∧ q y = 0) := Lib.hid ⟨HY.out.1.mod HK.out.2.2 fun e => e hpy, part_keep HK.out.2.1 hpy HY.out.1.lt⟩
 clear hpy
 by_cases h5 : E5 = 0
 ·subst h5
  go_wp2_with fail
  refine bodyPost_ret (v := .tuple #[.pointer (some ⟨y, 0, none⟩), .int .i64 0]) (by simp [results, Tryz.results24, go_sem]) rfl ?_
  first
   | exact .inr ⟨rfl, y, rfl, HY.out.2, q, HK.out.1.rd, HK.out.1.sub, HK.out.1.mod, HSH.out.1, HSH.out.2⟩
   | exact ⟨y, rfl, HY.out.2, q, HK.out.1.rd, HK.out.1.sub, HK.out.1.mod, HSH.out.1, HSH.out.2⟩
 ·have hne : (E5 != 0) = true := by simpa using h5
  have HNE := Lib.hid h5
  clear h5
  go_wp2_with fail
  refine bodyPost_ret (v := .tuple #[.pointer none, .int .i64 E5]) (by simp [results, Tryz.results24, go_sem]) rfl ?_
  exact .inl ⟨HNE.out, rfl, HK.out.1.rout⟩
set_option maxHeartbeats 1600000 in
theorem rsopen_len (hd : RD w d p m) (hsz : m.size = 156) (r c : Int) (hr : 0 ≤ r ∧ r ≤ 6) (hc : 1 ≤ c ∧ c ≤ 1099511627776) (hfew : m.waits.length + 1 ≤ 1000000) (hE : m.loadE r 2 = 0) (hV : m.loadV r 2 ≠ 0) (hB : (m.loadB r 2).length ≠ 8) :
 Calls Tryz.prog 24 #[.pointer (some ⟨d, 0, none⟩), .int .i64 r, .int .i64 c] w fun e w' => e = .returned (.tuple #[.pointer none, .int .i64 130]) ∧ Ext w w' := by
 obtain ⟨g, gc, d0, _, _⟩ := rd_heads hd
 rw [hsz] at d0
 obtain ⟨h1, h2⟩ := hr
 obtain ⟨h3, h4⟩ := hc
 have hld := rload_of hd r 2 (by omega) (knownY ⟨h1, h2⟩ hsz)
 rw [hE] at hld
 have HLD := Lib.hid hld
 generalize m.loadV r 2 = V at *
 have hv' : (0 : Int) < (V : Int) := by omega
 have HB := Lib.hid hB
 clear hd hsz hfew hE hV hld hB
 go_enter Tryz.func24, Tryz.ntmps24
 go_wp2_with fail
 refine HLD.out.mono ?_
 rintro e w1 ⟨A, n, cc, rfl, hby, hx⟩
 have HX : Hid (Ext w (w1.alloc (.cells #[.pointer (some ⟨d, 0, none⟩), .int .i64 r, .int .i64 c, .int .i64 0, .int .i64 0, .int .i64 0] 146))) := Lib.hid (hx.alloc _)
 have hn8 : ((n : Int) != 8) = true := by have := hby.len; have := HB.out; simp; omega
 clear hx hby
 go_wp2_with fail
 refine bodyPost_ret (v := .tuple #[.pointer none, .int .i64 130]) (by simp [results, Tryz.results24, go_sem]) rfl ⟨rfl, HX.out⟩
set_option maxHeartbeats 3200000 in
theorem rsopen_man (hd : RD w d p m) (hsz : m.size = 156) (r c : Int) (hr : 0 ≤ r ∧ r ≤ 6) (hc : 1 ≤ c ∧ c ≤ 1099511627776) (hfew : m.waits.length + 1 ≤ 1000000) (hE : m.loadE r 2 = 0) (hV : m.loadV r 2 ≠ 0) (hB : (m.loadB r 2).length = 8) :
 Calls Tryz.prog 24 #[.pointer (some ⟨d, 0, none⟩), .int .i64 r, .int .i64 c] w fun e w' =>
  (manOk (manR (m.loadB r 2)) = false ∧ e = .returned (.tuple #[.pointer none, .int .i64 130]) ∧ Ext w w') ∨
  (manOk (manR (m.loadB r 2)) = true ∧ (m.heal r 2).1 ≠ 0 ∧ e = .returned (.tuple #[.pointer none, .int .i64 (m.heal r 2).1]) ∧ ROut d p w (m.heal r 2).2 w') ∨
  (manOk (manR (m.loadB r 2)) = true ∧ (m.heal r 2).1 = 0 ∧ ∃ y, e = .returned (.tuple #[.pointer (some ⟨y, 0, none⟩), .int .i64 0]) ∧ ROpn w d y r c p (m.heal r 2).2 (manR (m.loadB r 2)) w') := by
 obtain ⟨g, gc, d0, _, _⟩ := rd_heads hd
 rw [hsz] at d0
 obtain ⟨h1, h2⟩ := hr
 obtain ⟨h3, h4⟩ := hc
 have hld := rload_of hd r 2 (by omega) (knownY ⟨h1, h2⟩ hsz)
 rw [hE] at hld
 have HHL := Lib.hid (fun (V : World) (hV : Ext w V) => rheal_of (hd.ext hV) r 2 hfew (knownY ⟨h1, h2⟩ hsz))
 have HD := Lib.hid hd
 generalize m.loadV r 2 = V at *
 generalize m.loadB r 2 = B at *
 have hv' : (0 : Int) < (V : Int) := by omega
 generalize m.heal r 2 = X at *
 obtain ⟨E5, m5⟩ := X
 match B, hB with
 | [b0, b1, b2, b3, b4, b5, b6, b7], _ =>
 have hg6 := getS_six (l := [b0, b1, b2, b3, b4, b5, b6, b7]) (by simp)
 have hman : manR [b0, b1, b2, b3, b4, b5, b6, b7] = ⟨num (([b0, b1, b2, b3, b4, b5, b6, b7].drop 0).take 6), b6, b7⟩ := by
  have e : ∀ x : Nat, num [x] = x := fun x => by simp [num]
  show (⟨_, num [b6], num [b7]⟩ : ShM) = _
  rw [e, e]
 rw [hman]
 have HLD := Lib.hid hld
 clear hd hsz hfew hE hV hld hB hman
 generalize num (([b0, b1, b2, b3, b4, b5, b6, b7].drop 0).take 6) = ix at *
 have HG6 := Lib.hid hg6
 clear hg6
 go_enter Tryz.func24, Tryz.ntmps24
 go_wp2_with fail
 refine HLD.out.mono ?_
 rintro e w1 ⟨A, n, cc, rfl, hby, hx⟩
 obtain rfl : n = 8 := by have := hby.len; simpa using this.symm
 obtain ⟨g6, o6, hA6, _, hc6⟩ := hby.rd.2 (by simp)
 subst hA6
 have k6 := hc6 6 b6 rfl
 have k7 := hc6 7 b7 rfl
 have hb6 : b6 < 256 := hby.rd.lt _ (by simp)
 have hb7 : b7 < 256 := hby.rd.lt _ (by simp)
 have HBY := Lib.hid hby
 have HX := Lib.hid hx
 have hx2 := (Ext.refl w1).alloc (.cells #[.pointer (some ⟨d, 0, none⟩), .int .i64 r, .int .i64 c, .int .i64 0, .int .i64 0, .int .i64 0] 146)
 have HGT := Lib.hid (rget_any _ _ _ cc _ 0 6 (w1.alloc (.cells #[.pointer (some ⟨d, 0, none⟩), .int .i64 r, .int .i64 c, .int .i64 0, .int .i64 0, .int .i64 0] 146)) (By.ext hby hx2).len (By.ext hby hx2).rd (by omega))
 rw [HG6.out] at HGT
 clear hby hx hc6 hx2
 go_wp2_with fail
 refine HGT.out.mono ?_
 rintro e w2 ⟨rfl, rfl⟩
 go_upto_region 13 with (fail)
 have hz := heap_alloc_new w1 (.cells #[.pointer (some ⟨d, 0, none⟩), .int .i64 r, .int .i64 c, .int .i64 (ix : Int), .int .i64 (b6 : Int), .int .i64 (b7 : Int)] 146)
 have hE4 := (Ext.refl w1).alloc (.cells #[.pointer (some ⟨d, 0, none⟩), .int .i64 r, .int .i64 c, .int .i64 (ix : Int), .int .i64 (b6 : Int), .int .i64 (b7 : Int)] 146)
 generalize (w1.alloc (.cells #[.pointer (some ⟨d, 0, none⟩), .int .i64 r, .int .i64 c, .int .i64 (ix : Int), .int .i64 (b6 : Int), .int .i64 (b7 : Int)] 146)) = w2 at *
 have HY : Hid (RShAt w2 w1.heap.size d r c ⟨ix, b6, b7⟩ ∧ w.heap.size ≤ w1.heap.size) := Lib.hid ⟨⟨hz⟩, HX.out.size⟩
 have HX2 : Hid (Ext w w2) := Lib.hid (HX.out.trans hE4)
 obtain ⟨y, hy⟩ : ∃ y, w1.heap.size = y := ⟨_, rfl⟩
 rw [hy] at HY ⊢
 obtain ⟨e0, e1, e2, e3, e4, e5⟩ := HY.out.1.cells
 dsimp only at e3 e4 e5
 clear hz hE4 hy HGT
 by_cases q0 : ix < 1
 case pos =>
  have HNO : Hid (manOk ⟨ix, b6, b7⟩ = false) := Lib.hid (decide_eq_false (by dsimp only; omega))
  have q1 : (ix : Int) < 1 := by omega
  clear q0
  go_wp2_with fail
  refine bodyPost_ret (v := .tuple #[.pointer none, .int .i64 130]) (by simp [results, Tryz.results24, go_sem]) rfl ?_
  first | exact .inl ⟨HNO.out, rfl, HX2.out⟩ | exact ⟨rfl, HX2.out⟩ | exact ⟨HNO.out, rfl, HX2.out⟩
 have j1 : (1 : Int) ≤ (ix : Int) := by omega
 clear q0
 by_cases q0 : 1099511627752 < ix
 case pos =>
  have HNO : Hid (manOk ⟨ix, b6, b7⟩ = false) := Lib.hid (decide_eq_false (by dsimp only; omega))
  have q1 : (1099511627752 : Int) < (ix : Int) := by omega
  clear q0
  go_wp2_with fail
  refine bodyPost_ret (v := .tuple #[.pointer none, .int .i64 130]) (by simp [results, Tryz.results24, go_sem]) rfl ?_
  first | exact .inl ⟨HNO.out, rfl, HX2.out⟩ | exact ⟨rfl, HX2.out⟩ | exact ⟨HNO.out, rfl, HX2.out⟩
 have j2 : (ix : Int) ≤ 1099511627752 := by omega
 clear q0
 by_cases q0 : 1 < b6
 case pos =>
  have HNO : Hid (manOk ⟨ix, b6, b7⟩ = false) := Lib.hid (decide_eq_false (by dsimp only; omega))
  have q1 : (1 : Int) < (b6 : Int) := by omega
  clear q0
  go_wp2_with fail
  refine bodyPost_ret (v := .tuple #[.pointer none, .int .i64 130]) (by simp [results, Tryz.results24, go_sem]) rfl ?_
  first | exact .inl ⟨HNO.out, rfl, HX2.out⟩ | exact ⟨rfl, HX2.out⟩ | exact ⟨HNO.out, rfl, HX2.out⟩
 have j3 : (b6 : Int) ≤ 1 := by omega
 clear q0
 by_cases q0 : b7 < 1
 case pos =>
  have HNO : Hid (manOk ⟨ix, b6, b7⟩ = false) := Lib.hid (decide_eq_false (by dsimp only; omega))
  have q1 : (b7 : Int) < 1 := by omega
  clear q0
  go_wp2_with fail
  refine bodyPost_ret (v := .tuple #[.pointer none, .int .i64 130]) (by simp [results, Tryz.results24, go_sem]) rfl ?_
  first | exact .inl ⟨HNO.out, rfl, HX2.out⟩ | exact ⟨rfl, HX2.out⟩ | exact ⟨HNO.out, rfl, HX2.out⟩
 have j4 : (1 : Int) ≤ (b7 : Int) := by omega
 clear q0
 by_cases q0 : 8 < b7
 case pos =>
  have HNO : Hid (manOk ⟨ix, b6, b7⟩ = false) := Lib.hid (decide_eq_false (by dsimp only; omega))
  have q1 : (8 : Int) < (b7 : Int) := by omega
  clear q0
  go_wp2_with fail
  refine bodyPost_ret (v := .tuple #[.pointer none, .int .i64 130]) (by simp [results, Tryz.results24, go_sem]) rfl ?_
  first | exact .inl ⟨HNO.out, rfl, HX2.out⟩ | exact ⟨rfl, HX2.out⟩ | exact ⟨HNO.out, rfl, HX2.out⟩
 have j5 : (b7 : Int) ≤ 8 := by omega
 clear q0
 have HOK : Hid (manOk ⟨ix, b6, b7⟩ = true) := Lib.hid (manOk_iff.2 (by dsimp only; omega))
 go_wp2_with fail
 refine (HHL.out w2 HX2.out).mono ?_
 rintro e w3 ⟨rfl, hs⟩
 obtain ⟨q, HR, hsub, hm⟩ := ((RQ.start HD.out).ext HX2.out).out hs
 have HK := Lib.hid (And.intro HR (And.intro hsub hm))
 clear hs HR hsub hm
 have hpy : p y = 0 := part_none HD.out HY.out.2
 have HSH : Hid (RShAt w3 y d r c ⟨ix, b6, b7⟩ ∧ q y = 0) := Lib.hid ⟨HY.out.1.mod HK.out.2.2 fun e => e hpy, part_keep HK.out.2.1 hpy HY.out.1.lt⟩
 clear hpy
 by_cases h5 : E5 = 0
 ·subst h5
  go_wp2_with fail
  refine bodyPost_ret (v := .tuple #[.pointer (some ⟨y, 0, none⟩), .int .i64 0]) (by simp [results, Tryz.results24, go_sem]) rfl ?_
  first
   | exact .inr (.inr ⟨HOK.out, rfl, y, rfl, HY.out.2, q, HK.out.1.rd, HK.out.1.sub, HK.out.1.mod, HSH.out.1, HSH.out.2⟩)
   | exact .inr ⟨HOK.out, y, rfl, HY.out.2, q, HK.out.1.rd, HK.out.1.sub, HK.out.1.mod, HSH.out.1, HSH.out.2⟩
 ·have hne : (E5 != 0) = true := by simpa using h5
  have HNE := Lib.hid h5
  clear h5
  go_wp2_with fail
  refine bodyPost_ret (v := .tuple #[.pointer none, .int .i64 E5]) (by simp [results, Tryz.results24, go_sem]) rfl ?_
  exact .inr (.inl ⟨HOK.out, HNE.out, rfl, HK.out.1.rout⟩)
end
end
section
open Go Go.RowKit
theorem own_low {w : World} {b b' e sz n : Nat} {v : Value} {xs : List Value} (h : w.ownsRow b e sz v n xs) (hb : b' ≤ b) : w.ownsRow b' e sz v n xs := by
 refine ⟨h.1, ?_⟩
 rcases h.2 with h0 | ⟨g, cap, cur, h1, h2, h3⟩
 ·exact .inl h0
 ·exact .inr ⟨g, cap, cur, h1, Nat.le_trans hb h2, h3⟩
structure OwnL (W : World) (B : Nat) (v : Value) (L : List Lst) : Prop where
 row : W.ownsRow B 45 1 v L.length (L.map Lst.val)
 each : ∀ a ∈ L, W.ownsRow B 5 1 (Lst.val a) a.n (vb a.l) ∧ (∀ x ∈ a.l, x < 256) ∧ ∀ p, a.A = some p → v.ownBlock ≠ some p.block
theorem OwnL.nil_ (W : World) (B : Nat) : OwnL W B (.slice none 0 0) [] := ⟨World.ownsRow_nil _ _ _ _, fun a ha => by cases ha⟩
theorem OwnL.ext {W W' : World} {B : Nat} {v : Value} {L : List Lst} (h : OwnL W B v L) (k : Ext W W') : OwnL W' B v L := ⟨ownsRow_ext h.row k, fun a ha => ⟨ownsRow_ext (h.each a ha).1 k, (h.each a ha).2⟩⟩
theorem OwnL.lsts {W : World} {B : Nat} {v : Value} {L : List Lst} (h : OwnL W B v L) : ∃ A c, v = .slice A L.length c ∧ Lsts W W.heap.size A L.length c L := by
 obtain ⟨A, c, rfl, h1, h2⟩ := own_form h.row
 refine ⟨A, c, rfl, rfl, h1, h2, fun a ha => Bs.of_own (h.each a ha).1 (h.each a ha).2.1, fun hn => ?_, fun hA => ?_⟩
 ·rcases h.row.2 with ⟨_, h0⟩ | ⟨g, cap, cur, hv, hb, hg, _⟩
  ·omega
  ·injection hv with hA hN hC
   subst hA
   refine ⟨g, 0, rfl, (Array.getElem?_eq_some_iff.1 hg).1, fun j a ha => ?_⟩
   have hj : j < L.length := (List.getElem?_eq_some_iff.1 ha).1
   rw [Nat.zero_add, h.row.cellAt j (by omega), List.getElem?_map, ha]
   rfl
 ·rcases h.row.2 with ⟨hv, _⟩ | ⟨g, cap, cur, hv, _⟩
  ·injection hv
  ·injection hv with hA' _ _
   rw [hA] at hA'
   cases hA'
theorem OwnL.app {w W w1 w2 : World} {B g m cap : Nat} {v : Value} {L : List Lst} {a0 : Lst} {tmp : Obj} (h : OwnL W B v L) (hB : B ≤ W.heap.size) (h0 : Below B w W) (hx : Ext W w1) (ho : w1.ownsRow W.heap.size 5 1 (Lst.val a0) a0.n (vb a0.l)) (hb : ∀ x ∈ a0.l, x < 256)
 (hr : w2.ownsRow B 45 1 (.slice (some ⟨g, 0, none⟩) m cap) (L.length + 1) (L.map Lst.val ++ [Lst.val a0])) (hg : (w1.alloc tmp).grownBy w2 v.ownBlock) (hgl : v.ownBlock = some g ∨ g = (w1.alloc tmp).heap.size) :
 OwnL w2 B (.slice (some ⟨g, 0, none⟩) m cap) (L ++ [a0]) ∧ Below B w w2 := by
 have hs1 := hx.size
 have hs2 : (w1.alloc tmp).heap.size = w1.heap.size + 1 := World.size_alloc _ _
 have hvo := h.row.lt
 have hm : Mod (fun k => some k = v.ownBlock) w1 w2 := by
  have h1 : Mod (fun k => some k = v.ownBlock) w1 (w1.alloc tmp) := Mod.of_ext ((Ext.refl w1).alloc tmp)
  exact h1.grown hg fun k hk => .inl hk.symm
 refine ⟨⟨by rw [List.length_append, List.map_append]; exact hr, fun a ha => ?_⟩, Below.trans h0 (Below.trans (Below.mono hx hB) ⟨hm.os, hm.tape, hm.output, hm.size, fun k hk => hm.block k (by omega) (fun e => by have := hvo k e.symm; omega)⟩)⟩
 rcases List.mem_append.1 ha with ha | ha
 ·obtain ⟨h1, h2, h3⟩ := h.each a ha
  refine ⟨own_mod (ownsRow_ext h1 hx) hm fun i hi hf => ?_, h2, fun p hp e => ?_⟩
  ·cases hA : a.A with
   | none => rw [Lst.val, hA] at hi; cases hi
   | some p =>
    rw [Lst.val, hA] at hi
    have hi : some p.block = some i := hi
    exact h3 p hA (hf.symm.trans hi.symm)
  ·injection e with e
   have e : g = p.block := e
   rcases hgl with hgl | hgl
   ·rw [e] at hgl; exact h3 p hp hgl
   ·have := h1.lt p.block (by rw [Lst.val, hp]; rfl)
    omega
 ·rw [List.mem_singleton] at ha
  subst ha
  refine ⟨own_mod (own_low ho hB) hm fun i hi hf => ?_, hb, fun p hp e => ?_⟩
  ·have h4 := ho.lt i hi
   have h5 := hvo i hf.symm
   omega
  ·injection e with e
   have e : g = p.block := e
   have h4 := ho.lt p.block (by rw [Lst.val, hp]; rfl)
   rcases hgl with hgl | hgl
   ·have h5 := hvo g hgl
    omega
   ·omega
end
section
open Go Go.RowKit
theorem zcut_last (A : Option Addr) (n c k : Nat) (h : 80 * k ≤ n) (h2 : n ≤ 80 * k + 80) (hc : n ≤ c) (w : World) : (Instr.slice 45 (.slice A n c) (some (.int .i64 (80 * (k : Int)))) (some (.int .i64 (n : Int))) none).run Tryz.prog w = .ok (pcV A n c k) w := by
 have ht : Tryz.prog.elem 45 = 5 := by kernel_rfl
 rw [run_slice_lh w 45 A n c (by rw [ht]; exact Tryz.underlying45) .i64 .i64 (80 * (k : Int)) (n : Int) (by omega) (by omega) (by omega), u8_sizeZ]
 simp only [Result.andThen, sliced]
 rw [show (80 * (k : Int)).toNat = 80 * k by omega, Int.toNat_natCast]
 unfold pcV pcA
 rw [show min 80 (n - 80 * k) = n - 80 * k by omega]
 simp
set_option maxHeartbeats 1600000 in
theorem zrsplit_yes {w : World} (A : Option Addr) (n c : Nat) (bs : List Nat) (hb : By w A n c bs) (hn : n ≤ 640) :
 Calls Tryz.prog 79 #[.slice A n c] w fun e w' => ∃ v L, e = .returned (.tuple #[v, .int .i64 0]) ∧ OwnL w' w.heap.size v L ∧ lsOf L = splitL bs ∧ Ext w w' := by
 obtain ⟨i0, hi, hz0, hz1, hz2⟩ := info_parts sl_infoZ
 have hcn := hb.cap
 have hlen := hb.len
 have HB := Lib.hid hb
 have hch := chunkN_in hn
 have HCH := Lib.hid hch
 have hn' : (n : Int) ≤ 640 := by omega
 clear hb hch
 go_enter Tryz.func79, Tryz.ntmps79
 go_wp2_with fail
 go_loopw [4, 5] (fun v i wr => ∃ (j : Nat) (L : List Lst), j ≤ chunkN n ∧ L.length = j ∧ i = .int .i64 (80 * (j : Int)) ∧ Hid (OwnL wr w.heap.size v L) ∧ Hid (lsOf L = (List.range j).map (chunkL bs)) ∧ Hid (Ext w wr)) (fun _ i _ => 80 * chunkN n - (intOf i).toNat)
 case atStart => exact ⟨0, [], by omega, rfl, by simp, Lib.hid (OwnL.nil_ _ _), Lib.hid rfl, Lib.hid (Ext.refl _)⟩
 case round =>
  obtain ⟨j, L, hj, hL, rfl, HO, HL, HX⟩ := hrel
  have hj8 : j ≤ 8 := by have := HCH.out; omega
  by_cases hlt : j < chunkN n
  ·have hin : 80 * j < n ∨ (j = 0 ∧ n = 0) := by
    have := HCH.out
    by_cases h1 : n = 0
    ·right
     refine ⟨?_, h1⟩
     have e : chunkN n = 1 := by unfold chunkN; rw [if_pos (by omega)]
     omega
    ·left
     by_cases h2 : j = 0
     ·omega
     ·have := this.2.2.2 (by omega)
      omega
   have hle : 80 * j ≤ n := by omega
   have hcond : ((80 * (j : Int) < (n : Int)) ∨ ((n : Int) ≤ 80 * (j : Int) ∧ (80 * (j : Int) == 0) = true)) := by
    rcases hin with h | ⟨h1, h2⟩
    ·exact .inl (by omega)
    ·exact .inr ⟨by omega, by subst h1; rfl⟩
   have hCP := fun V (hV : Ext w V) => copy_by (pcA A c j) (chunkL bs j) (min 80 (n - 80 * j)) (c - 80 * j) V ((HB.out.ext hV).chunk j hle) (by omega)
   have HCP := Lib.hid hCP
   have hend : n < 80 * j + 80 ∨ 80 * j + 80 ≤ n := by omega
   clear hCP hin
   rcases hcond with hc1 | ⟨hc1, hc2⟩
   all_goals
    rcases hend with he | he
   case' inl.inl =>
    have he' : (n : Int) < 80 * (j : Int) + 80 := by omega
    have hcut := zcut_last A n c j hle (by omega) hcn
   case' inl.inr =>
    have he' : 80 * (j : Int) + 80 ≤ (n : Int) := by omega
    have hcut := zcut_mid A n c j he hcn
   case' inr.inl =>
    have he' : (n : Int) < 80 * (j : Int) + 80 := by omega
    have hcut := zcut_last A n c j hle (by omega) hcn
   case inr.inr => omega
   all_goals
    unfold pcV at hcut
    go_wp2_with fail
    refine (HCP.out _ HX.out).mono ?_
    rintro e w1 ⟨A', c', rfl, hby, hx, hown⟩
    have HX1 := Lib.hid hx
    have HBY := Lib.hid hby
    have HOW := Lib.hid hown
    obtain ⟨ml, hml⟩ : ∃ ml, min 80 (n - 80 * j) = ml := ⟨_, rfl⟩
    rw [hml] at HOW HBY ⊢
    clear hx hby hown hcut HCP
    go_wp2_with (at_builtin; refine wpList_append_lies _ rfl _ _ 62 rfl w.heap.size 45 i0 (.slice none 0 0) 1 24 Tryz.underlying62 hi hz0 hz1 hz2 rfl (by decide) _ L.length (L.map Lst.val) rfl ((HO.out.ext HX1.out).row.alloc _) ⟨w1.heap.size, 0, none⟩ 1 1 [.slice A' ml c'] rfl rfl (cell_one_new _ _ _) (by simp [Value.oneCell']) (by omega) (by unfold maxLen; omega) (by omega) (by have := HX1.out.size; have := HX.out.size; simp; omega) _ rfl ?_)
    intro g2 cap2 w2 hown2 hgrow2 hlies2 _
    rw [← hL] at hown2
    obtain ⟨hO2, hX2⟩ := HO.out.app (a0 := ⟨A', ml, c', chunkL bs j⟩) HX.out.size HX.out HX1.out HOW.out HBY.out.rd.lt hown2 hgrow2 (hlies2.imp id fun e => e.trans (World.size_alloc _ _).symm)
    rw [hL] at hO2
    have HO2 := Lib.hid hO2
    have HX2 : Hid (Ext w w2) := Lib.hid hX2
    have hl2 : lsOf (L ++ [⟨A', ml, c', chunkL bs j⟩]) = (List.range (j + 1)).map (chunkL bs) := by
     rw [List.range_succ, List.map_append, ← HL.out]
     unfold lsOf
     rw [List.map_append]
     rfl
    have HL2 := Lib.hid hl2
    clear hO2 hX2 hl2 hown2 hgrow2 hlies2 HOW HBY HX1
    go_wp2_with fail
    go_roundw
    case rel => exact ⟨j + 1, _, by omega, by rw [List.length_append, List.length_singleton, hL], by go_num, HO2, HL2, HX2⟩
    case measure => simp [intOf]; omega
  ·have hjc : j = chunkN n := by omega
   have hcx := HCH.out
   have hc1 : (n : Int) ≤ 80 * (j : Int) := by omega
   have hc2 : (80 * (j : Int) == 0) = false := beq_eq_false_iff_ne.2 (by omega)
   have hl2 : lsOf L = splitL bs := by
    rw [HL.out, hjc]
    unfold splitL
    rw [hlen]
   have HL2 := Lib.hid hl2
   clear hcx hl2 hjc hlt hj
   go_wp2_with fail
   refine bodyPost_ret (v := .tuple #[u4, .int .i64 0]) (by simp [results, Tryz.results79, go_sem]) rfl ?_
   exact ⟨u4, L, rfl, HO.out, HL2.out, HX.out⟩
theorem zrsplit_no (A : Option Addr) (n c : Nat) (hn : 640 < n) (w : World) :
 Calls Tryz.prog 79 #[.slice A n c] w fun e w' => e = .returned (.tuple #[.slice none 0 0, .int .i64 3]) ∧ w = w' := by
 have hn' : (640 : Int) < (n : Int) := by omega
 go_enter Tryz.func79, Tryz.ntmps79
 go_wp2_with fail
 exact bodyPost_ret (v := .tuple #[.slice none 0 0, .int .i64 3]) (by simp [results, Tryz.results79, go_sem]) rfl ⟨rfl, rfl⟩
end
section
open Go Go.RowKit
def RIns (w : World) (y d : Nat) (r inc : Int) (q : Nat → Nat) (m' : DM) (s' : ShM) (w' : World) : Prop :=
 ∃ q', RD w' d q' m' ∧ (∀ k, q' k ≠ 0 → q k ≠ 0 ∨ w.heap.size ≤ k) ∧ Mod (fun k => q k ≠ 0 ∨ k = y) w w' ∧ RShAt w' y d r inc s' ∧ q' y = 0
theorem RQ.ins {w w' : World} {y d : Nat} {r inc : Int} {q q' : Nat → Nat} {m : DM} {s : ShM} (h : RQ w w' d q q' m) (hs : RShAt w y d r inc s) (hy : q y = 0) : RIns w y d r inc q m s w' :=
 ⟨q', h.rd, h.sub, h.mod.mono fun _ hi => .inl hi, hs.mod h.mod fun e => e hy, part_keep h.sub hy hs.lt⟩
theorem put_down {m : DM} (h : m.up = false) (r inc : Int) (s : ShM) {l : List (List Nat)} (hl : 0 < l.length) : m.putY r inc s l = (5, m) := by
 have hw : m.wrY r inc s 0 l = (5, m) := by
  cases l with
  | nil => cases hl
  | cons c l =>
   unfold DM.wrY
   show unE (wrsY r inc s (wrsE (0, m) _ _ 2) 1 l) _ = _
   rw [wrs_down h _ _ 2 (by omega), wrsY_err r inc s (by omega)]
   rfl
 unfold DM.putY
 rw [hw]
 rfl
theorem man_two (i a n : Nat) (ha : a < 256) (hn : n < 256) : vb (digs 6 i) ++ [Value.int .u8 ((a : Nat) : Int), Value.int .u8 ((n : Nat) : Int)] = vb (manL ⟨i, a, n⟩) := by
 have e : ∀ x : Nat, x < 256 → digs 1 x = [x] := fun x hx => by
  show [x % 256] = [x]
  rw [Nat.mod_eq_of_lt hx]
 unfold manL
 dsimp only
 rw [e a ha, e n hn, List.append_assoc]
 unfold vb
 rw [List.map_append]
 rfl
section
variable {w : World} {y d : Nat} {r inc : Int} {s : ShM} {q : Nat → Nat} {m : DM}
set_option maxHeartbeats 800000 in
theorem rsinstall_arg (h : RShAt w y d r inc s) (i : Int) (hi : ¬ ((s.ix : Int) < i ∧ i ≤ 1099511627752)) (A : Option Addr) (n c : Nat) :
 Calls Tryz.prog 27 #[.pointer (some ⟨y, 0, none⟩), .int .i64 i, .slice A n c] w fun e w' => e = .returned (.int .i64 2) ∧ w = w' := by
 obtain ⟨_, _, _, c3, _⟩ := h.cells
 clear h
 generalize (s.ix : Int) = ix at *
 by_cases h1 : i ≤ ix
 ·clear hi
  go_enter Tryz.func27, Tryz.ntmps27
  go_wp2_with fail
  go_ret
  exact ⟨rfl, rfl⟩
 ·have h1 : ix < i := by omega
  have h2 : 1099511627752 < i := by omega
  clear hi
  go_enter Tryz.func27, Tryz.ntmps27
  go_wp2_with fail
  go_ret
  exact ⟨rfl, rfl⟩
set_option maxHeartbeats 800000 in
theorem rsinstall_long (h : RShAt w y d r inc s) (i : Int) (hi : (s.ix : Int) < i ∧ i ≤ 1099511627752) (A : Option Addr) (n c : Nat) (hn : 640 < n) :
 Calls Tryz.prog 27 #[.pointer (some ⟨y, 0, none⟩), .int .i64 i, .slice A n c] w fun e w' => e = .returned (.int .i64 3) ∧ w = w' := by
 obtain ⟨_, _, _, c3, _⟩ := h.cells
 obtain ⟨h1, h2⟩ := hi
 have HSP := Lib.hid (zrsplit_no A n c hn w)
 clear h
 generalize (s.ix : Int) = ix at *
 go_enter Tryz.func27, Tryz.ntmps27
 go_wp2_with fail
 refine HSP.out.mono ?_
 rintro e w1 ⟨rfl, rfl⟩
 go_wp2_with fail
 go_ret
 exact ⟨rfl, rfl⟩
end
end
section
open Go Go.RowKit
section
variable {w : World} {y d : Nat} {r inc : Int} {s : ShM} {q : Nat → Nat} {m : DM}
set_option maxHeartbeats 1600000 in
theorem rsinstall_down (hup : m.up = false) (h : RShAt w y d r inc s) (hd : RD w d q m) (hy : q y = 0) (hs : s = {} ∨ manOk s = true) (hr : 0 ≤ r ∧ r ≤ 6) (hc : 1 ≤ inc ∧ inc ≤ 1099511627776) (hsz : m.size = 156)
 (i : Nat) (hi : s.ix < i ∧ i ≤ 1099511627752) (A : Option Addr) (n c : Nat) (bs : List Nat) (hb : By w A n c bs) (hn : n ≤ 640) (hfew : m.waits.length ≤ 900000) :
 Calls Tryz.prog 27 #[.pointer (some ⟨y, 0, none⟩), .int .i64 (i : Int), .slice A n c] w fun e w' => e = .returned (.int .i64 (m.putY r inc (nextY s i (chunkN bs.length)) (splitL bs)).1) ∧
  RIns w y d r inc q (m.putY r inc (nextY s i (chunkN bs.length)) (splitL bs)).2 (if (m.putY r inc (nextY s i (chunkN bs.length)) (splitL bs)).1 = 0 then nextY s i (chunkN bs.length) else s) w' := by
 obtain ⟨i0, hi0, hz0, hz1, hz2⟩ := info_parts byte_info
 have hok := nextY_ok hs hi (b := bs) (by rw [hb.len]; exact hn)
 have hlt := hb.rd.lt
 have hse : ∀ k c, k < 8 → c ∈ splitL bs → sealE r 5 ((8 * (nextY s i (chunkN bs.length)).ar + k : Nat) : Int) ((nextY s i (chunkN bs.length)).ix : Int) inc (prZL ((nextY s i (chunkN bs.length)).ct : Int) c).length 2 = 0 := fun k c hk hcm => sealY hr hc hok hk (split_each hlt c hcm).1
 have har : s.ar ≤ 1 := by
  rcases hs with rfl | hs
  ·exact Nat.zero_le _
  ·have := manOk_iff.1 hs; omega
 have HSP := Lib.hid (zrsplit_yes A n c bs hb hn)
 have hcn := chunkN_in (n := bs.length) (by rw [hb.len]; exact hn)
 have hex : ∀ l ∈ splitL bs, l.length ≤ 80 := fun l hl => (split_each hlt l hl).1
 have hspl := splitL_len bs
 obtain ⟨ar2, har2⟩ : ∃ ar2, (if s.ix = 0 then 0 else 1 - s.ar) = ar2 := ⟨_, rfl⟩
 have har21 : ar2 ≤ 1 := by rw [← har2]; split <;> omega
 have hnx : nextY s i (chunkN bs.length) = ⟨i, ar2, chunkN bs.length⟩ := by unfold nextY; rw [har2]
 rw [hnx] at hok hse ⊢
 dsimp only at hse
 have hcn1 : 1 ≤ chunkN bs.length ∧ chunkN bs.length ≤ 8 := by omega
 have hdown := put_down (m := m) (r := r) (inc := inc) (s := ⟨i, ar2, chunkN bs.length⟩) (l := splitL bs)
 obtain ⟨c0, c1, c2, c3, c4, c5⟩ := h.cells
 have HDN : Hid (∀ V, Ext w V → Calls Tryz.prog 80 #[.pointer (some ⟨y, 0, none⟩)] V fun e w' => e = .returned (.bool (!m.up)) ∧ V = w') := Lib.hid fun V hV => rsdown_of (h.ext hV) (hd.ext hV)
 have HOK := Lib.hid hok
 have HSE := Lib.hid hse
 have HD := Lib.hid hd
 have H := Lib.hid h
 have HY := Lib.hid hy
 have HK := Lib.hid (And.intro hr (And.intro hc hsz))
 have HFW := Lib.hid hfew
 have HEX := Lib.hid hex
 have HSL := Lib.hid hspl
 have HAR2 := Lib.hid har2
 obtain ⟨Z, hZ⟩ : ∃ Z, m.putY r inc ⟨i, ar2, chunkN bs.length⟩ (splitL bs) = Z := ⟨_, rfl⟩
 obtain ⟨s', hs'⟩ : ∃ s' : ShM, (if Z.1 = 0 then ⟨i, ar2, chunkN bs.length⟩ else s) = s' := ⟨_, rfl⟩
 rw [hZ] at hdown
 rw [hZ, hs']
 have HZS := Lib.hid (And.intro hZ hs')
 have HDW := Lib.hid hdown
 have hix : (s.ix : Int) < (i : Int) := by omega
 have hix2 : (i : Int) ≤ 1099511627752 := by omega
 have hix3 : i ≤ 1099511627752 := hi.2
 generalize chunkN bs.length = cn at *
 clear h hd hy hs hr hc hsz hb hfew hok hlt hse hex hspl har2 hnx c0 c1 c2 c4 c5 hdown hZ hs' hcn hi hn
 go_enter Tryz.func27, Tryz.ntmps27
 go_wp2_with fail
 refine HSP.out.mono ?_
 rintro e w1 ⟨v, L, rfl, hO, hl, hx⟩
 obtain ⟨A1, c1, rfl, hls⟩ := hO.lsts
 have hA1 : Off (fun k => q k ≠ 0) A1 := fun p hp hf => by
  have h1 := (hO.row.lt p.block (by rw [hp]; rfl)).1
  have h2 := HD.out.2 _ hf
  omega
 have hO1 : ∀ a ∈ L, 0 < a.n → Off (fun k => q k ≠ 0) a.A := fun a ha _ p hp hf => by
  have h1 := ((hO.each a ha).1.lt p.block (by unfold Lst.val; rw [hp]; rfl)).1
  have h2 := HD.out.2 _ hf
  omega
 have hll : L.length = cn := by
  have := congrArg List.length hl
  unfold lsOf at this
  rw [List.length_map] at this
  rw [this, HSL.out]
 rw [hll] at hls
 have HLS := Lib.hid (And.intro hls (And.intro hA1 (And.intro hO1 hl)))
 have HX1 := Lib.hid hx
 have hdn := HDN.out w1 hx
 clear hO hls hA1 hO1 hl hx c3
 rw [hll]
 rw [hup] at hdn
 have hZ5 := HDW.out hup (by rw [HSL.out]; omega)
 subst hZ5
 have HDN := Lib.hid hdn
 clear hdn hup
 go_wp2_with fail
 refine HDN.out.mono ?_
 rintro e w2 ⟨rfl, rfl⟩
 go_wp2_with fail
 go_ret
 refine ⟨rfl, ?_⟩
 have : s = s' := by rw [← HZS.out.2]; rfl
 subst this
 exact ((RQ.start HD.out).ext HX1.out).ins H.out HY.out
end
end
end Go.Proofs.YtmpaocpgoihliaaGreatDoor
