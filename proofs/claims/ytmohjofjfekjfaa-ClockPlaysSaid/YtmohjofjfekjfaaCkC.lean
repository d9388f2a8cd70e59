/-
  A clock in memory; the contracts of its counters, New, Patience, Tick, Hear, Silent.
-/
import Derived.Test.YtmohjofjfekjfaaKMod
import Derived.Test.YtmohjofjfekjfaaProg
import Derived.WalkKit
import Derived.WalkSpells
import Derived.BigQuiet
import Derived.Lib.Hide
import Derived.WalkArith
import Derived.LaidEqlPtr
import Derived.Deep.RegionHeld3
namespace Go.Proofs.Ytmohjofjfekjfaa
open Go Go.RowKit

/-- A clock of that patience: its silence, and the ticks of its reign since the last beat. -/
structure CQ (w : World) (g P s l : Nat) : Prop where
  row : w.heap[g]? = some (.cells #[.pointer (some ⟨g, 0, none⟩), .int .i64 (P : Int), .int .i64 (s : Int), .int .i64 (l : Int)] 43 (0, 0))
  pat : 10 ≤ P ∧ P ≤ 34
  sl : s < P
  ld : l < 3
section
variable {w w' : World} {g P s l : Nat}
theorem CQ.lt (z : CQ w g P s l) : g < w.heap.size := (Array.getElem?_eq_some_iff.1 z.row).1
theorem CQ.mod {F : Nat → Prop} (z : CQ w g P s l) (hm : Mod F w w') (h1 : ¬ F g) : CQ w' g P s l := ⟨heap_mod z.row hm h1, z.pat, z.sl, z.ld⟩
theorem CQ.ext (z : CQ w g P s l) (hx : Ext w w') : CQ w' g P s l := ⟨(hx.block _ z.lt).trans z.row, z.pat, z.sl, z.ld⟩
theorem CQ.cells (z : CQ w g P s l) : w.cell? ⟨g, 0, none⟩ = some (.pointer (some ⟨g, 0, none⟩)) ∧ w.cell? ⟨g, 1, none⟩ = some (.int .i64 (P : Int)) ∧ w.cell? ⟨g, 2, none⟩ = some (.int .i64 (s : Int)) ∧ w.cell? ⟨g, 3, none⟩ = some (.int .i64 (l : Int)) :=
  ⟨cell_of_row w g 0 _ _ _ z.row, cell_of_row w g 1 _ _ _ z.row, cell_of_row w g 2 _ _ _ z.row, cell_of_row w g 3 _ _ _ z.row⟩
theorem CQ.free (z : CQ w g P s l) (o : Nat) : w.frozen? ⟨g, o, none⟩ = false := frozen_of_row w g o _ _ z.row
end
/-- One cell of a known block is stored into. -/
theorem row_setK {w : World} {g t : Nat} {fr : Nat × Nat} {cs cs' : Array Value} (i : Nat) (h : w.heap[g]? = some (.cells cs t fr)) (x : Value) (e : cs.setIfInBounds i x = cs') : (w.setCell ⟨g, i, none⟩ x).heap[g]? = some (.cells cs' t fr) := by
  subst e
  rw [setCell_eq_setRow w g i cs t fr x h]
  exact setRow_heap w g _ _ _ _ h
theorem mod_one (w : World) (g i : Nat) (v : Value) : Mod (fun k => k = g) w (w.setCell ⟨g, i, none⟩ v) := Mod.setCell (F := fun k => k = g) (Mod.refl (fun k => k = g) w) (p := ⟨g, i, none⟩) (.inl rfl) v
theorem CQ.silence {w : World} {g P s l : Nat} (z : CQ w g P s l) {s' : Nat} (h : s' < P) : CQ (w.setCell ⟨g, 2, none⟩ (.int .i64 (s' : Int))) g P s' l := ⟨row_setK 2 z.row _ rfl, z.pat, h, z.ld⟩
theorem CQ.reign {w : World} {g P s l : Nat} (z : CQ w g P s l) {l' : Nat} (h : l' < 3) : CQ (w.setCell ⟨g, 3, none⟩ (.int .i64 (l' : Int))) g P s l' := ⟨row_setK 3 z.row _ rfl, z.pat, z.sl, h⟩

theorem eqlC_self (a : Addr) (w : World) : (binOp .eql 23 (.pointer (some a)) (.pointer (some a))).run Try.prog w = .ok (.bool true) w := by
  have hi : (Try.prog.info? 43).isSome = true := by kernel_rfl
  obtain ⟨j, hj⟩ := Option.isSome_iff_exists.1 hi
  exact run_eql_ptr_same w a Try.underlying23 hj
theorem eqlC_nil_some (a : Addr) (w : World) : (binOp .eql 23 (.pointer none) (.pointer (some a))).run Try.prog w = .ok (.bool false) w := by
  have h : ∀ d : Nat, (Op.equalIn (d + 1) 23 (.pointer none) (.pointer (some a))).run Try.prog w = .ok false w := fun d => by
    simp [Op.equalIn, run_underlying Try.underlying23]
  simp only [binOp]
  simp [Op.equal, Op.maxDepth, h 9999]
set_option maxRecDepth 100000 in
set_option maxHeartbeats 400000 in
theorem cmade_yes (g : Nat) (w : World) (h : w.cell? ⟨g, 0, none⟩ = some (.pointer (some ⟨g, 0, none⟩))) :
    Calls Try.prog 19 #[.pointer (some ⟨g, 0, none⟩)] w fun e w' => e = .returned (.bool true) ∧ w = w' := by
  have he := eqlC_self
  go_enter Try.func19, Try.ntmps19
  go_wp2
  go_ret
  exact ⟨rfl, rfl⟩
/-- A pointer to no clock that New returned. -/
def UnmadeC (w : World) (p : Option Addr) : Prop := p = none ∨ ∃ d, p = some ⟨d, 0, none⟩ ∧ w.cell? ⟨d, 0, none⟩ = some (.pointer none)
set_option maxRecDepth 100000 in
set_option maxHeartbeats 400000 in
theorem cmade_no (p : Option Addr) (w : World) (h : UnmadeC w p) :
    Calls Try.prog 19 #[.pointer p] w fun e w' => e = .returned (.bool false) ∧ w = w' := by
  rcases h with rfl | ⟨d, rfl, h⟩
  · go_enter Try.func19, Try.ntmps19
    go_wp2
    go_ret
    exact ⟨rfl, rfl⟩
  · have he := eqlC_nil_some
    go_enter Try.func19, Try.ntmps19
    go_wp2
    go_ret
    exact ⟨rfl, rfl⟩
/-! ### The counters -/
set_option maxRecDepth 100000 in
set_option maxHeartbeats 600000 in
theorem cclear_of (g o : Nat) (v : Value) (w : World) (h : w.cell? ⟨g, o, none⟩ = some v) (hf : w.frozen? ⟨g, o, none⟩ = false) :
    Calls Try.prog 25 #[.pointer (some ⟨g, o, none⟩)] w fun e w' => e = .returned (.tuple #[]) ∧ w' = w.setCell ⟨g, o, none⟩ (.int .i64 0) := by
  go_enter Try.func25, Try.ntmps25
  go_wp2_with fail
  go_end0
  exact ⟨rfl, rfl⟩
set_option maxRecDepth 100000 in
set_option maxHeartbeats 800000 in
theorem cnext_of (g o k P : Nat) (w : World) (h : w.cell? ⟨g, o, none⟩ = some (.int .i64 (k : Int))) (hf : w.frozen? ⟨g, o, none⟩ = false) (hP : 0 < P ∧ P ≤ 34) (hk : k < P) :
    Calls Try.prog 26 #[.pointer (some ⟨g, o, none⟩), .int .i64 (P : Int)] w fun e w' => e = .returned (.bool (decide ((k + 1) % P = 0))) ∧ w' = w.setCell ⟨g, o, none⟩ (.int .i64 (((k + 1) % P : Nat) : Int)) := by
  go_enter Try.func26, Try.ntmps26
  go_wp2_with fail
  have e1 : ((k : Int) + 1) % (P : Int) = (((k + 1) % P : Nat) : Int) := by rw [Int.natCast_emod]; rfl
  have e2 : (((k : Int) + 1) % (P : Int) == 0) = decide ((k + 1) % P = 0) := by
    rw [e1, Bool.eq_iff_iff]
    simp
    omega
  rw [e1] at *
  rw [e1] at e2
  rw [e2]
  go_ret
  exact ⟨rfl, rfl⟩
section
variable {w : World} {g P s l : Nat}
set_option maxRecDepth 100000 in
set_option maxHeartbeats 800000 in
theorem chear_of (z : CQ w g P s l) : Calls Try.prog 20 #[.pointer (some ⟨g, 2, none⟩)] w fun e w' => e = .returned (.tuple #[]) ∧ CQ w' g P 0 l ∧ Mod (fun k => k = g) w w' := by
  have HC := Lib.hid (cclear_of g 2 _ w z.cells.2.2.1 (z.free 2))
  have hp := z.pat
  have HZ := Lib.hid (z.silence (s' := 0) (by omega))
  have HM := Lib.hid (mod_one w g 2 (.int .i64 0))
  clear z hp
  go_enter Try.func20, Try.ntmps20
  go_wp2_with fail
  refine HC.out.mono ?_
  rintro e w1 ⟨rfl, rfl⟩
  go_wp2_with fail
  go_end0
  exact ⟨rfl, HZ.out, HM.out⟩
set_option maxRecDepth 100000 in
set_option maxHeartbeats 800000 in
theorem cfollow_of (z : CQ w g P s l) : Calls Try.prog 22 #[.pointer (some ⟨g, 3, none⟩)] w fun e w' => e = .returned (.tuple #[]) ∧ CQ w' g P s 0 ∧ Mod (fun k => k = g) w w' := by
  have HC := Lib.hid (cclear_of g 3 _ w z.cells.2.2.2 (z.free 3))
  have HZ := Lib.hid (z.reign (l' := 0) (by omega))
  have HM := Lib.hid (mod_one w g 3 (.int .i64 0))
  clear z
  go_enter Try.func22, Try.ntmps22
  go_wp2_with fail
  refine HC.out.mono ?_
  rintro e w1 ⟨rfl, rfl⟩
  go_wp2_with fail
  go_end0
  exact ⟨rfl, HZ.out, HM.out⟩
set_option maxRecDepth 100000 in
set_option maxHeartbeats 800000 in
theorem cwait_of (z : CQ w g P s l) : Calls Try.prog 23 #[.pointer (some ⟨g, 2, none⟩), .int .i64 (P : Int)] w fun e w' => e = .returned (.bool (decide ((s + 1) % P = 0))) ∧ CQ w' g P ((s + 1) % P) l ∧ Mod (fun k => k = g) w w' := by
  have hp := z.pat
  have HC := Lib.hid (cnext_of g 2 s P w z.cells.2.2.1 (z.free 2) (by omega) z.sl)
  have HZ := Lib.hid (z.silence (s' := (s + 1) % P) (Nat.mod_lt _ (by omega)))
  have HM := Lib.hid (mod_one w g 2 (.int .i64 (((s + 1) % P : Nat) : Int)))
  clear z hp
  go_enter Try.func23, Try.ntmps23
  go_wp2_with fail
  refine HC.out.mono ?_
  rintro e w1 ⟨rfl, rfl⟩
  go_wp2_with fail
  go_ret
  exact ⟨rfl, HZ.out, HM.out⟩
set_option maxRecDepth 100000 in
set_option maxHeartbeats 800000 in
theorem clead_of (z : CQ w g P s l) : Calls Try.prog 21 #[.pointer (some ⟨g, 3, none⟩)] w fun e w' => e = .returned (.bool (decide ((l + 1) % 3 = 0))) ∧ CQ w' g P s ((l + 1) % 3) ∧ Mod (fun k => k = g) w w' := by
  have HC := Lib.hid (cnext_of g 3 l 3 w z.cells.2.2.2 (z.free 3) (by omega) z.ld)
  have HZ := Lib.hid (z.reign (l' := (l + 1) % 3) (Nat.mod_lt _ (by omega)))
  have HM := Lib.hid (mod_one w g 3 (.int .i64 (((l + 1) % 3 : Nat) : Int)))
  clear z
  go_enter Try.func21, Try.ntmps21
  go_wp2_with fail
  refine HC.out.mono ?_
  rintro e w1 ⟨rfl, rfl⟩
  go_wp2_with fail
  go_ret
  exact ⟨rfl, HZ.out, HM.out⟩
set_option maxRecDepth 100000 in
set_option maxHeartbeats 800000 in
theorem csil_of (z : CQ w g P s l) : Calls Try.prog 24 #[.pointer (some ⟨g, 2, none⟩)] w fun e w' => e = .returned (.int .i64 (s : Int)) ∧ w = w' := by
  have h2 := z.cells.2.2.1
  clear z
  go_enter Try.func24, Try.ntmps24
  go_wp2_with fail
  go_ret
  exact ⟨rfl, rfl⟩
end
/-! ### The clock's calls -/
section
variable {w : World} {g P s l : Nat}
set_option maxRecDepth 100000 in
set_option maxHeartbeats 800000 in
theorem csilent_of (z : CQ w g P s l) : Calls Try.prog 16 #[.pointer (some ⟨g, 0, none⟩)] w fun e w' => e = .returned (.int .i64 (s : Int)) ∧ w = w' := by
  have HM := Lib.hid (cmade_yes g w z.cells.1)
  have HC := Lib.hid (csil_of z)
  clear z
  go_enter Try.func16, Try.ntmps16
  go_wp2_with fail
  refine HM.out.mono ?_
  rintro e w1 ⟨rfl, rfl⟩
  go_wp2_with fail
  refine HC.out.mono ?_
  rintro e w1 ⟨rfl, rfl⟩
  go_wp2_with fail
  go_ret
  exact ⟨rfl, rfl⟩
set_option maxRecDepth 100000 in
set_option maxHeartbeats 800000 in
theorem cHear_of (z : CQ w g P s l) : Calls Try.prog 12 #[.pointer (some ⟨g, 0, none⟩)] w fun e w' => e = .returned (.tuple #[]) ∧ CQ w' g P 0 l ∧ Mod (fun k => k = g) w w' := by
  have HM := Lib.hid (cmade_yes g w z.cells.1)
  have HC := Lib.hid (chear_of z)
  clear z
  go_enter Try.func12, Try.ntmps12
  go_wp2_with fail
  refine HM.out.mono ?_
  rintro e w1 ⟨rfl, rfl⟩
  go_wp2_with fail
  refine HC.out.mono ?_
  rintro e w1 ⟨rfl, z, m⟩
  have HR := Lib.hid (And.intro z m)
  clear z m
  go_wp2_with fail
  go_end0
  exact ⟨rfl, HR.out⟩
set_option maxRecDepth 100000 in
set_option maxHeartbeats 800000 in
/-- A tick, led. -/
theorem ctick_lead (z : CQ w g P s l) : Calls Try.prog 14 #[.pointer (some ⟨g, 0, none⟩), .bool true] w fun e w' => e = .returned (.tuple #[.bool false, .bool (decide ((l + 1) % 3 = 0))]) ∧ CQ w' g P 0 ((l + 1) % 3) ∧ Mod (fun k => k = g) w w' := by
  have HM := Lib.hid (cmade_yes g w z.cells.1)
  have HC := Lib.hid (chear_of z)
  clear z
  go_enter Try.func14, Try.ntmps14
  go_wp2_with fail
  refine HM.out.mono ?_
  rintro e w1 ⟨rfl, rfl⟩
  go_wp2_with fail
  refine HC.out.mono ?_
  rintro e w1 ⟨rfl, z, m⟩
  have HM1 := Lib.hid m
  have HC1 := Lib.hid (clead_of z)
  clear z m
  go_wp2_with fail
  refine HC1.out.mono ?_
  rintro e w2 ⟨rfl, z, m⟩
  have HR := Lib.hid (And.intro z (HM1.out.trans m fun _ h => .inl h))
  clear z m
  go_wp2_with fail
  refine bodyPost_ret (v := .tuple #[.bool false, .bool (decide ((l + 1) % 3 = 0))]) (by simp [results, Try.results14, go_sem]) rfl ⟨rfl, HR.out⟩
set_option maxRecDepth 100000 in
set_option maxHeartbeats 800000 in
/-- A tick without leading. -/
theorem ctick_wait (z : CQ w g P s l) : Calls Try.prog 14 #[.pointer (some ⟨g, 0, none⟩), .bool false] w fun e w' => e = .returned (.tuple #[.bool (decide ((s + 1) % P = 0)), .bool false]) ∧ CQ w' g P ((s + 1) % P) 0 ∧ Mod (fun k => k = g) w w' := by
  have HM := Lib.hid (cmade_yes g w z.cells.1)
  have HC := Lib.hid (cfollow_of z)
  clear z
  go_enter Try.func14, Try.ntmps14
  go_wp2_with fail
  refine HM.out.mono ?_
  rintro e w1 ⟨rfl, rfl⟩
  go_wp2_with fail
  refine HC.out.mono ?_
  rintro e w1 ⟨rfl, z, m⟩
  have HM1 := Lib.hid m
  have HC1 := Lib.hid (fun V (zV : CQ V g P s 0) => cwait_of zV)
  have hS0 : w1.drew.cell? ⟨g, 1, none⟩ = some (.int .i64 (P : Int)) := z.cells.2.1
  have HZ := Lib.hid (z.ext (Ext.refl w1).drew)
  clear z m
  go_wp2_with fail
  go_region_held3 (fun w' => w'.cell? ⟨g, 1, none⟩ = some (.int .i64 (P : Int)))
    (first | with_reducible exact hS0 | with_reducible exact hS3 | with_reducible assumption)
    (first | (go_at_call 23; ((with_reducible refine (HC1.out _ HZ.out).mono ?_); rintro e' w3 ⟨rfl, z3, m3⟩; have hS3 := z3.cells.2.1)))
  have HR := Lib.hid (And.intro z3 (HM1.out.trans ((Mod.of_ext (F := fun k => k = g) (Ext.refl w1).drew).trans m3 fun _ h => .inl h) fun _ h => .inl h))
  clear z3 m3 hS3
  go_wp2_with fail
  refine bodyPost_ret (v := .tuple #[.bool (decide ((s + 1) % P = 0)), .bool false]) (by simp [results, Try.results14, go_sem]) rfl ⟨rfl, HR.out⟩
def tkS (P : Nat) (ld : Bool) (s : Nat) : Nat := bif ld then 0 else (s + 1) % P
def tkL (ld : Bool) (l : Nat) : Nat := bif ld then (l + 1) % 3 else 0
def tkA (P : Nat) (ld : Bool) (s : Nat) : Bool := !ld && decide ((s + 1) % P = 0)
def tkB (ld : Bool) (l : Nat) : Bool := ld && decide ((l + 1) % 3 = 0)
theorem ctick_of (z : CQ w g P s l) (ld : Bool) : Calls Try.prog 14 #[.pointer (some ⟨g, 0, none⟩), .bool ld] w fun e w' => e = .returned (.tuple #[.bool (tkA P ld s), .bool (tkB ld l)]) ∧ CQ w' g P (tkS P ld s) (tkL ld l) ∧ Mod (fun k => k = g) w w' := by
  cases ld with
  | true => exact ctick_lead z
  | false => exact ctick_wait z
end
/-! ### Clocks that New did not return -/
section
variable {w : World} {p : Option Addr}
set_option maxRecDepth 100000 in
set_option maxHeartbeats 800000 in
theorem ctick_nil (h : UnmadeC w p) (ld : Bool) : Calls Try.prog 14 #[.pointer p, .bool ld] w fun e w' => e = .returned (.tuple #[.bool false, .bool false]) ∧ w = w' := by
  have HM := Lib.hid (cmade_no p w h)
  clear h
  go_enter Try.func14, Try.ntmps14
  go_wp2_with fail
  refine HM.out.mono ?_
  rintro e w1 ⟨rfl, rfl⟩
  go_wp2_with fail
  refine bodyPost_ret (v := .tuple #[.bool false, .bool false]) (by simp [results, Try.results14, go_sem]) rfl ⟨rfl, rfl⟩
set_option maxRecDepth 100000 in
set_option maxHeartbeats 800000 in
theorem chear_nil (h : UnmadeC w p) : Calls Try.prog 12 #[.pointer p] w fun e w' => e = .returned (.tuple #[]) ∧ w = w' := by
  have HM := Lib.hid (cmade_no p w h)
  clear h
  go_enter Try.func12, Try.ntmps12
  go_wp2_with fail
  refine HM.out.mono ?_
  rintro e w1 ⟨rfl, rfl⟩
  go_wp2_with fail
  go_end0
  exact ⟨rfl, rfl⟩
set_option maxRecDepth 100000 in
set_option maxHeartbeats 800000 in
theorem csilent_nil (h : UnmadeC w p) : Calls Try.prog 16 #[.pointer p] w fun e w' => e = .returned (.int .i64 0) ∧ w = w' := by
  have HM := Lib.hid (cmade_no p w h)
  clear h
  go_enter Try.func16, Try.ntmps16
  go_wp2_with fail
  refine HM.out.mono ?_
  rintro e w1 ⟨rfl, rfl⟩
  go_wp2_with fail
  go_ret
  exact ⟨rfl, rfl⟩
end
/-! ### Patience, New -/
/-- A replica's patience, or 0. -/
def patC (r : Int) : Nat := if 0 ≤ r ∧ r < 7 then 10 + 4 * r.toNat else 0
set_option maxRecDepth 100000 in
set_option maxHeartbeats 800000 in
theorem cpat_of (r : Int) (w : World) : Calls Try.prog 10 #[.int .i64 r] w fun e w' => e = .returned (.int .i64 (patC r : Int)) ∧ w = w' := by
  by_cases h0 : r < 0
  · have d0 : decide (r < 0) = true := decide_eq_true h0
    have hp : patC r = 0 := by unfold patC; rw [if_neg (by omega)]
    rw [hp]
    go_enter Try.func10, Try.ntmps10
    go_wp2_with fail
    go_ret
    exact ⟨rfl, rfl⟩
  · by_cases h7 : 7 ≤ r
    · have d0 : decide (r < 0) = false := decide_eq_false h0
      have d7 : decide (7 ≤ r) = true := decide_eq_true h7
      have hp : patC r = 0 := by unfold patC; rw [if_neg (by omega)]
      rw [hp]
      go_enter Try.func10, Try.ntmps10
      go_wp2_with fail
      go_ret
      exact ⟨rfl, rfl⟩
    · have d0 : decide (r < 0) = false := decide_eq_false h0
      have d7 : decide (7 ≤ r) = false := decide_eq_false h7
      obtain ⟨k, rfl⟩ := Int.eq_ofNat_of_zero_le (show 0 ≤ r by omega)
      have hp : patC (k : Int) = 10 + 4 * k := by unfold patC; rw [if_pos (by omega), Int.toNat_natCast]
      rw [hp]
      have hk : k < 7 := by omega
      go_enter Try.func10, Try.ntmps10
      go_wp2_with fail
      go_ret
      refine ⟨?_, rfl⟩
      congr 2
set_option maxRecDepth 100000 in
set_option maxHeartbeats 800000 in
theorem cnew_no (r : Int) (hr : patC r = 0) (w : World) : Calls Try.prog 8 #[.int .i64 r] w fun e w' => e = .returned (.tuple #[.pointer none, .int .i64 2]) ∧ w = w' := by
  have HC := Lib.hid (cpat_of r w)
  rw [hr] at HC
  clear hr
  go_enter Try.func8, Try.ntmps8
  go_wp2_with fail
  refine HC.out.mono ?_
  rintro e w1 ⟨rfl, rfl⟩
  go_wp2_with fail
  refine bodyPost_ret (v := .tuple #[.pointer none, .int .i64 2]) (by simp [results, Try.results8, go_sem]) rfl ⟨rfl, rfl⟩
theorem patC_in {k : Nat} (hk : k < 7) : patC (k : Int) = 10 + 4 * k := by unfold patC; rw [if_pos (by omega), Int.toNat_natCast]
theorem patC_out {r : Int} (h : ¬ (0 ≤ r ∧ r < 7)) : patC r = 0 := by unfold patC; rw [if_neg h]
set_option maxRecDepth 100000 in
set_option maxHeartbeats 800000 in
theorem cnew_yes (k : Nat) (hk : k < 7) (w : World) : Calls Try.prog 8 #[.int .i64 (k : Int)] w fun e w' => e = .returned (.tuple #[.pointer (some ⟨w.heap.size, 0, none⟩), .int .i64 0]) ∧ CQ w' w.heap.size (10 + 4 * k) 0 0 ∧ Ext w w' := by
  have HC := Lib.hid (cpat_of (k : Int) w)
  rw [patC_in hk] at HC
  have hP : 10 ≤ 10 + 4 * k ∧ 10 + 4 * k ≤ 34 := by omega
  obtain ⟨P, hPe⟩ : ∃ P, 10 + 4 * k = P := ⟨_, rfl⟩
  rw [hPe] at HC hP ⊢
  clear hPe
  go_enter Try.func8, Try.ntmps8
  go_wp2_with fail
  refine HC.out.mono ?_
  rintro e w1 ⟨rfl, rfl⟩
  go_wp2_with fail
  refine bodyPost_ret (v := .tuple #[.pointer (some ⟨w.heap.size, 0, none⟩), .int .i64 0]) (by simp [results, Try.results8, go_sem]) rfl ⟨rfl, ⟨?_, hP, by omega, by omega⟩, (Ext.refl w).alloc _⟩
  exact heap_alloc_new w (.cells #[.pointer (some ⟨w.heap.size, 0, none⟩), .int .i64 (P : Int), .int .i64 0, .int .i64 0] 43)
end Go.Proofs.Ytmohjofjfekjfaa
